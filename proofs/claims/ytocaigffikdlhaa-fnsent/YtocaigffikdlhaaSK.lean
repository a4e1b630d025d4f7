/-
  A chunk taken: both TakeChunk.
-/
import Derived.Test.YtocaigffikdlhaaTA
import Derived.Test.YtocaigffikdlhaaMI
namespace Go.Proofs.Ytocaigffikdlhaa
open Go.RowKit Go.Maps
set_option linter.unusedVariables false
set_option maxRecDepth 100000

theorem wp_append_wts (w : World) {o : Oper} {a : Act} {K : Act → World → Prop} {Q : Exit → Act → World → Prop} (s x : Operand)
    (ho : o.op = .call { callee := .builtin .append, args := #[s, x], argTypes := #[39, 39] }) (hty : o.type = 39)
    (base : Nat) (v : Value) (n : Nat) (zs : List Wt) (hs : a.eval s = v) (hown : w.ownsRow base 54 2 v n (flat2 zs))
    (xv : Value) (ys : List Wt) (hx : a.eval x = xv) (hI : WR w xv ys) (hn : n + ys.length ≤ 2000000) (hbase : base ≤ w.heap.size)
    (h : ∀ v' w', w'.ownsRow base 54 2 v' (n + ys.length) (flat2 (zs ++ ys)) → w.grownBy w' v.ownBlock → K (a.put o.dst v') w') : o.wp Try.prog a w K Q := by
  obtain ⟨i0, hi, hz0, hzs, hzb⟩ := info_parts Try.info54
  obtain ⟨xa, xc, rfl, hc⟩ := hI
  cases xa with
  | none =>
    have hy : ys = [] := by
      by_cases e : ys = []
      · exact e
      · obtain ⟨b, off, h, _⟩ := hc e; cases h
    subst hy
    have hrun := run_nothing_wts xc hown
    unfold Oper.wp
    simp [execOp, ho, resolve, invoke, builtin, hs, hx, hty, hrun, Result.andThen]
    exact (h v w (by simpa using hown) ⟨rfl, rfl, rfl, Nat.le_refl _, fun _ _ _ => rfl⟩)
  | some ad =>
    refine wp_append_own _ s x 39 ho base 54 i0 (.agg #[.int .i64 0, .int .u32 0]) 2 16 Try.underlying39 hi hz0 hzs hzb rfl (by decide) v n (flat2 zs) hs hown ad ys.length xc (flat2 ys) hx (flat2_length ys) ?_ ?_ (by unfold maxLen; omega) (by omega) hbase fun v' w' h1 h2 _ => h v' w' (by rw [flat2_append]; exact h1) h2
    · intro j u hj
      have hj4 : j < ys.length * 2 := by rw [← flat2_length ys]; exact (List.getElem?_eq_some_iff.1 hj).1
      obtain ⟨b, off, he, hb, hcell⟩ := hc (by intro e; rw [e] at hj4; simp at hj4)
      injection he with he
      subst he
      have ea : ∀ j, (⟨b, off, none⟩ : Addr).add j = ⟨b, off + j, none⟩ := fun j => by simp [Addr.add]
      obtain ⟨c0, c1⟩ := hcell (j / 2) (by omega)
      obtain ⟨g0, g1⟩ := flat2_get ys (j / 2) (by omega)
      obtain hm | hm : j % 2 = 0 ∨ j % 2 = 1 := by omega
      · have e : j = j / 2 * 2 := by omega
        rw [← e] at g0 c0; rw [g0] at hj; injection hj with hj; rw [← hj, ea]; exact c0
      · have e : j = j / 2 * 2 + 1 := by omega
        rw [← e] at g1; rw [g1] at hj; injection hj with hj; rw [← hj, ea, show off + j = off + j / 2 * 2 + 1 from by omega]; exact c1
    · intro u hu
      obtain ⟨j, hj, e⟩ := List.getElem_of_mem hu
      rw [flat2_length] at hj
      have hj' : (flat2 ys)[j]? = some u := List.getElem?_eq_some_iff.2 ⟨by rw [flat2_length]; exact hj, e⟩
      obtain ⟨g0, g1⟩ := flat2_get ys (j / 2) (by omega)
      obtain hm | hm : j % 2 = 0 ∨ j % 2 = 1 := by omega
      · rw [show j = j / 2 * 2 from by omega, g0] at hj'; injection hj' with hj'; rw [← hj']; rfl
      · rw [show j = j / 2 * 2 + 1 from by omega, g1] at hj'; injection hj' with hj'; rw [← hj']; rfl
theorem wp_append_cks (w : World) {o : Oper} {a : Act} {K : Act → World → Prop} {Q : Exit → Act → World → Prop} (s x : Operand)
    (ho : o.op = .call { callee := .builtin .append, args := #[s, x], argTypes := #[30, 30] }) (hty : o.type = 30)
    (base : Nat) (v : Value) (n : Nat) (zs : List Ck) (hs : a.eval s = v) (hown : w.ownsRow base 37 4 v n (flat4 zs))
    (xv : Value) (ys : List Ck) (hx : a.eval x = xv) (hI : IR w xv ys) (hn : n + ys.length ≤ 2000000) (hbase : base ≤ w.heap.size)
    (h : ∀ v' w', w'.ownsRow base 37 4 v' (n + ys.length) (flat4 (zs ++ ys)) → w.grownBy w' v.ownBlock → K (a.put o.dst v') w') : o.wp Try.prog a w K Q := by
  obtain ⟨i0, hi, hz0, hzs, hzb⟩ := info_parts Try.info37
  obtain ⟨xa, xc, rfl, hc⟩ := hI
  cases xa with
  | none =>
    have hy : ys = [] := by
      by_cases e : ys = []
      · exact e
      · obtain ⟨b, off, h, _⟩ := hc e; cases h
    subst hy
    have hrun := run_nothing_cks xc hown
    unfold Oper.wp
    simp [execOp, ho, resolve, invoke, builtin, hs, hx, hty, hrun, Result.andThen]
    exact (h v w (by simpa using hown) ⟨rfl, rfl, rfl, Nat.le_refl _, fun _ _ _ => rfl⟩)
  | some ad =>
    refine wp_append_own _ s x 30 ho base 37 i0 (.agg #[.int .i64 0, .int .i64 0, .string ⟨#[]⟩, .int .u32 0]) 4 40 Try.underlying30 hi hz0 hzs hzb rfl (by decide) v n (flat4 zs) hs hown ad ys.length xc (flat4 ys) hx (flat4_length ys) ?_ ?_ (by unfold maxLen; omega) (by omega) hbase fun v' w' h1 h2 _ => h v' w' (by rw [flat4_append]; exact h1) h2
    · intro j u hj
      have hj4 : j < ys.length * 4 := by rw [← flat4_length ys]; exact (List.getElem?_eq_some_iff.1 hj).1
      obtain ⟨b, off, he, hb, hcell⟩ := hc (by intro e; rw [e] at hj4; simp at hj4)
      injection he with he
      subst he
      have ea : ∀ j, (⟨b, off, none⟩ : Addr).add j = ⟨b, off + j, none⟩ := fun j => by simp [Addr.add]
      obtain ⟨c0, c1, c2, c3⟩ := hcell (j / 4) (by omega)
      obtain ⟨g0, g1, g2, g3⟩ := flat4_get ys (j / 4) (by omega)
      obtain hm | hm | hm | hm : j % 4 = 0 ∨ j % 4 = 1 ∨ j % 4 = 2 ∨ j % 4 = 3 := by omega
      · have e : j = j / 4 * 4 := by omega
        rw [← e] at g0 c0; rw [g0] at hj; injection hj with hj; rw [← hj, ea]; exact c0
      · have e : j = j / 4 * 4 + 1 := by omega
        rw [← e] at g1; rw [g1] at hj; injection hj with hj; rw [← hj, ea, show off + j = off + j / 4 * 4 + 1 from by omega]; exact c1
      · have e : j = j / 4 * 4 + 2 := by omega
        rw [← e] at g2; rw [g2] at hj; injection hj with hj; rw [← hj, ea, show off + j = off + j / 4 * 4 + 2 from by omega]; exact c2
      · have e : j = j / 4 * 4 + 3 := by omega
        rw [← e] at g3; rw [g3] at hj; injection hj with hj; rw [← hj, ea, show off + j = off + j / 4 * 4 + 3 from by omega]; exact c3
    · intro u hu
      obtain ⟨j, hj, e⟩ := List.getElem_of_mem hu
      rw [flat4_length] at hj
      have hj' : (flat4 ys)[j]? = some u := List.getElem?_eq_some_iff.2 ⟨by rw [flat4_length]; exact hj, e⟩
      obtain ⟨g0, g1, g2, g3⟩ := flat4_get ys (j / 4) (by omega)
      obtain hm | hm | hm | hm : j % 4 = 0 ∨ j % 4 = 1 ∨ j % 4 = 2 ∨ j % 4 = 3 := by omega
      · rw [show j = j / 4 * 4 from by omega, g0] at hj'; injection hj' with hj'; rw [← hj']; rfl
      · rw [show j = j / 4 * 4 + 1 from by omega, g1] at hj'; injection hj' with hj'; rw [← hj']; rfl
      · rw [show j = j / 4 * 4 + 2 from by omega, g2] at hj'; injection hj' with hj'; rw [← hj']; rfl
      · rw [show j = j / 4 * 4 + 3 from by omega, g3] at hj'; injection hj' with hj'; rw [← hj']; rfl

theorem owns_type_kept {w w' : World} {b1 b2 : Nat} {e1 e2 : TypeId} {s1 s2 : Nat} {v1 v2 : Value} {n1 n2 : Nat} {x1 x2 : List Value} (h1 : w.ownsRow b1 e1 s1 v1 n1 x1) (h2 : w.ownsRow b2 e2 s2 v2 n2 x2) (hne : e1 ≠ e2) (hg : w.grownBy w' v2.ownBlock) : w'.ownsRow b1 e1 s1 v1 n1 x1 := by
  refine World.ownsRow.kept h1 hg ?_
  cases hv : v1.ownBlock with
  | none => exact .inl rfl
  | some q => exact .inr fun e => owns_type_ne h1 h2 hne q hv e.symm
def ctB (W : List Wt) (G : List Ck) (c : Ck) : Bool := gtB W G && tkB W G c
def ctW (W : List Wt) (G : List Ck) (c : Ck) : List Wt := if ctB W G c then W else []
def ctG (W : List Wt) (G : List Ck) (c : Ck) : List Ck := if ctB W G c then tkG G c else []
theorem ct_len (W : List Wt) (G : List Ck) (c : Ck) : (ctW W G c).length ≤ 1000 ∧ (ctG W G c).length ≤ 1000 := by
  unfold ctW ctG
  cases h : ctB W G c with
  | false => simp
  | true =>
    unfold ctB at h
    rw [Bool.and_eq_true] at h
    obtain ⟨h1, h2, h3⟩ := (gtB_iff W G).1 h.1
    have := (tk_good h3 h2 h.2).2
    have := h1.1
    simp; omega

set_option maxHeartbeats 8000000 in
theorem implTake_any (a c : Value) (W : List Wt) (G : List Ck) (y : Ck) (w : World) (h : TR w a c W G) (na : Nn a) (nc : Nn c) (hn : W.length ≤ 1048576) (hm : G.length ≤ 1048576) (hs : ∀ i (h : i < G.length), G[i].k.size ≤ 1048576) (hy : y.k.size ≤ 1048576) :
    Calls Try.prog 22 #[.agg #[a, c], .agg #[.int .i64 y.n, .int .i64 y.d, .string y.k, .int .u32 y.v]] w fun e w' => ∃ a' c', e = .returned (.tuple #[.agg #[a', c'], .bool (ctB W G y)]) ∧ OT w' w.heap.size a' c' (ctW W G y) (ctG W G y) ∧ Below w.heap.size w w' := by
  have KG := fun W' (hb : Below w.heap.size w W') => implGT_any a c W G W' (h.below hb) hn hm hs
  have KT := fun (h1 : wOk W) (h2 : G.length ≤ 200) (h3 : gcB W G = true) W' (hb : Below w.heap.size w W') => with_any a c W G y W' (h.below hb) na nc h1 h2 h3 hy
  have HC : ctB W G y = (gtB W G && tkB W G y) := rfl
  have HCW : ctW W G y = if ctB W G y then W else [] := rfl
  have HCG : ctG W G y = if ctB W G y then tkG G y else [] := rfl
  have HTW : tkW W G y = if tkB W G y then W else [] := rfl
  have HTR : tkR W G y = if tkB W G y then tkG G y else [] := rfl
  obtain ⟨⟨wa, wb, rfl, _⟩, ca, cb, rfl, _⟩ := h
  obtain ⟨yn, yd, yk, yv⟩ := y
  dsimp only at *
  have X := ((Box.new w #[.slice wa W.length wb, .slice ca G.length cb] 41).alloc (.cells #[.int .i64 yn, .int .i64 yd, .string yk, .int .u32 yv] 37)).alloc (.cells #[.slice none 0 0, .slice none 0 0] 41)
  have Y := (Box.new (w.alloc (.cells #[.slice wa W.length wb, .slice ca G.length cb] 41)) #[.int .i64 yn, .int .i64 yd, .string yk, .int .u32 yv] 37).alloc (.cells #[.slice none 0 0, .slice none 0 0] 41)
  have R := Box.new ((w.alloc (.cells #[.slice wa W.length wb, .slice ca G.length cb] 41)).alloc (.cells #[.int .i64 yn, .int .i64 yd, .string yk, .int .u32 yv] 37)) #[.slice none 0 0, .slice none 0 0] 41
  have hB := below3 w (.cells #[.slice wa W.length wb, .slice ca G.length cb] 41) (.cells #[.int .i64 yn, .int .i64 yd, .string yk, .int .u32 yv] 37) (.cells #[.slice none 0 0, .slice none 0 0] 41)
  simp only [World.size_alloc] at Y R
  clear na nc hs
  cases hg : gtB W G with
  | false =>
    have e0 : ctB W G ⟨yn, yd, yk, yv⟩ = false := by rw [HC, hg]; rfl
    have e1 : ctW W G ⟨yn, yd, yk, yv⟩ = [] := by rw [HCW, e0]; rfl
    have e2 : ctG W G ⟨yn, yd, yk, yv⟩ = [] := by rw [HCG, e0]; rfl
    rw [e0, e1, e2]
    rw [hg] at KG
    clear KT hg HC HCW HCG HTW HTR e0 e1 e2
    go_enter Try.func22, Try.ntmps22
    go_wp2_with fail
    refine (KG _ hB).mono ?_
    rintro e w1 ⟨rfl, hb1⟩
    replace hB := below_then hB hb1
    replace R := R.below hb1
    obtain ⟨hvl, v0, v1, f0, f1⟩ := R.f2
    clear hb1 KG X Y R
    go_wp2
    exact bodyPost_ret (v := .tuple #[.agg #[.slice none 0 0, .slice none 0 0], .bool false]) (by simp [results, Try.results22, go_sem, v0, v1]) rfl ⟨_, _, rfl, OT.nil _ _, (hB.setCell (by simp; omega) _).setCell (by simp; omega) _⟩
  | true =>
    have e0 : ctB W G ⟨yn, yd, yk, yv⟩ = tkB W G ⟨yn, yd, yk, yv⟩ := by rw [HC, hg]; rfl
    have e1 : ctW W G ⟨yn, yd, yk, yv⟩ = tkW W G ⟨yn, yd, yk, yv⟩ := by rw [HCW, HTW, e0]
    have e2 : ctG W G ⟨yn, yd, yk, yv⟩ = tkR W G ⟨yn, yd, yk, yv⟩ := by rw [HCG, HTR, e0]
    rw [e0, e1, e2]
    rw [hg] at KG
    obtain ⟨h1, h2, h3⟩ := (gtB_iff W G).1 hg
    have KT2 := KT h1 h2 h3
    clear KT hg HC HCW HCG HTW HTR e0 e1 e2 h1 h3
    generalize tkW W G ⟨yn, yd, yk, yv⟩ = ZW at *
    generalize tkR W G ⟨yn, yd, yk, yv⟩ = ZG at *
    generalize tkB W G ⟨yn, yd, yk, yv⟩ = ok at *
    go_enter Try.func22, Try.ntmps22
    go_wp2_with fail
    refine (KG _ hB).mono ?_
    rintro e w1 ⟨rfl, hb1⟩
    replace hB := below_then hB hb1
    replace R := R.below hb1
    replace X := X.below hb1
    replace Y := Y.below hb1
    clear hb1 KG
    obtain ⟨hxl, x0, x1⟩ := X.c2
    obtain ⟨hyl, y0, y1, y2, y3⟩ := Y.c4
    have hrr := R.1
    go_wp2_with fail
    refine (KT2 _ hB).mono ?_
    rintro e w2 ⟨a', c', rfl, OO, hb2⟩
    replace hB := below_then hB hb2
    replace R := R.below hb2
    obtain ⟨⟨p0, p1, rfl⟩, q0, q1, rfl⟩ := OO.shapes
    obtain ⟨hvl, v0, v1, f0, f1⟩ := R.f2
    have O1 := ownsRow_setCell_below (ownsRow_setCell_below OO.a (a := ⟨w.heap.size + 1 + 1, 0, none⟩) hrr (.slice p0 ZW.length p1)) (a := ⟨w.heap.size + 1 + 1, 1, none⟩) hrr (.slice q0 ZG.length q1)
    have O2 := ownsRow_setCell_below (ownsRow_setCell_below OO.c (a := ⟨w.heap.size + 1 + 1, 0, none⟩) hrr (.slice p0 ZW.length p1)) (a := ⟨w.heap.size + 1 + 1, 1, none⟩) hrr (.slice q0 ZG.length q1)
    have HO1 : Hid _ := O1
    have HO2 : Hid _ := O2
    clear hb2 KT2 X Y R hxl x0 x1 hyl y0 y1 y2 y3 OO O1 O2
    go_wp2
    exact bodyPost_ret (v := .tuple #[.agg #[.slice p0 ZW.length p1, .slice q0 ZG.length q1], .bool ok]) (by simp [results, Try.results22, go_sem, v0, v1]) rfl ⟨_, _, rfl, ⟨owns_mono' HO1.out (by omega), owns_mono' HO2.out (by omega)⟩, (hB.setCell (by simp; omega) _).setCell (by simp; omega) _⟩

set_option maxHeartbeats 32000000 in
theorem specTake_any (a c : Value) (W : List Wt) (G : List Ck) (y : Ck) (w : World) (h : TR w a c W G) (hcp : Cp c) (hn : W.length ≤ 1048576) (hm : G.length ≤ 1048576) (hs : ∀ i (h : i < G.length), G[i].k.size ≤ 1048576) (hy : y.k.size ≤ 1048576) :
    Calls Try.prog 23 #[.agg #[a, c], .agg #[.int .i64 y.n, .int .i64 y.d, .string y.k, .int .u32 y.v]] w fun e w' => ∃ a' c', e = .returned (.tuple #[.agg #[a', c'], .bool (ctB W G y)]) ∧ OT w' w.heap.size a' c' (ctW W G y) (ctG W G y) ∧ Below w.heap.size w w' := by
  have KG := fun W' (hb : Below w.heap.size w W') => specGT_any a c W G W' (h.below hb) hn hm hs
  have KT := fun (h1 : wOk W) (h2 : G.length ≤ 200) (h3 : gcB W G = true) W' (hb : Below w.heap.size w W') => l13Take_any a c W G y W' (h.below hb) hcp h1 h2 h3 hy
  have HT0 := h
  have HC : ctB W G y = (gtB W G && tkB W G y) := rfl
  have HCW : ctW W G y = if ctB W G y then W else [] := rfl
  have HCG : ctG W G y = if ctB W G y then tkG G y else [] := rfl
  have HTN : tkN W G y = if tkB W G y then tkG G y else G := rfl
  obtain ⟨⟨wa, wb, rfl, _⟩, ca, cb, rfl, _⟩ := h
  obtain ⟨yn, yd, yk, yv⟩ := y
  dsimp only at *
  have X := ((Box.new w #[.slice wa W.length wb, .slice ca G.length cb] 41).alloc (.cells #[.int .i64 yn, .int .i64 yd, .string yk, .int .u32 yv] 37)).alloc (.cells #[.slice none 0 0, .slice none 0 0] 41)
  have Y := (Box.new (w.alloc (.cells #[.slice wa W.length wb, .slice ca G.length cb] 41)) #[.int .i64 yn, .int .i64 yd, .string yk, .int .u32 yv] 37).alloc (.cells #[.slice none 0 0, .slice none 0 0] 41)
  have R := Box.new ((w.alloc (.cells #[.slice wa W.length wb, .slice ca G.length cb] 41)).alloc (.cells #[.int .i64 yn, .int .i64 yd, .string yk, .int .u32 yv] 37)) #[.slice none 0 0, .slice none 0 0] 41
  have hB := below3 w (.cells #[.slice wa W.length wb, .slice ca G.length cb] 41) (.cells #[.int .i64 yn, .int .i64 yd, .string yk, .int .u32 yv] 37) (.cells #[.slice none 0 0, .slice none 0 0] 41)
  simp only [World.size_alloc] at Y R
  clear hcp hs
  cases hg : gtB W G with
  | false =>
    have e0 : ctB W G ⟨yn, yd, yk, yv⟩ = false := by rw [HC, hg]; rfl
    have e1 : ctW W G ⟨yn, yd, yk, yv⟩ = [] := by rw [HCW, e0]; rfl
    have e2 : ctG W G ⟨yn, yd, yk, yv⟩ = [] := by rw [HCG, e0]; rfl
    rw [e0, e1, e2]
    rw [hg] at KG
    clear KT hg HC HCW HCG HTN e0 e1 e2 HT0
    go_enter Try.func23, Try.ntmps23
    go_wp2_with fail
    refine (KG _ hB).mono ?_
    rintro e w1 ⟨rfl, hb1⟩
    replace hB := below_then hB hb1
    replace R := R.below hb1
    obtain ⟨hvl, v0, v1, f0, f1⟩ := R.f2
    clear hb1 KG X Y R
    go_wp2
    exact bodyPost_ret (v := .tuple #[.agg #[.slice none 0 0, .slice none 0 0], .bool false]) (by simp [results, Try.results23, go_sem, v0, v1]) rfl ⟨_, _, rfl, OT.nil _ _, (hB.setCell (by simp; omega) _).setCell (by simp; omega) _⟩
  | true =>
  have e0 : Hid (ctB W G ⟨yn, yd, yk, yv⟩ = tkB W G ⟨yn, yd, yk, yv⟩) := by show _ = _; rw [HC, hg]; rfl
  have e1 : Hid (ctW W G ⟨yn, yd, yk, yv⟩ = if tkB W G ⟨yn, yd, yk, yv⟩ then W else []) := by show _ = _; rw [HCW, e0.out]
  have e2 : Hid (ctG W G ⟨yn, yd, yk, yv⟩ = if tkB W G ⟨yn, yd, yk, yv⟩ then tkN W G ⟨yn, yd, yk, yv⟩ else []) := by show _ = _; rw [HCG, e0.out, HTN]; split <;> rfl
  rw [e0.out, e1.out, e2.out]
  rw [hg] at KG
  obtain ⟨h1, h2, h3⟩ := (gtB_iff W G).1 hg
  have KT2 := KT h1 h2 h3
  have hNl : (tkN W G ⟨yn, yd, yk, yv⟩).length ≤ 1000 := by
    rw [HTN]
    cases hb : tkB W G ⟨yn, yd, yk, yv⟩ with
    | false => simp; omega
    | true => have := (tk_good h3 h2 hb).2; simp; omega
  have hWl := h1.1
  clear KT hg HC HCW HCG HTN e0 e1 e2 h1 h3
  generalize tkN W G ⟨yn, yd, yk, yv⟩ = ZN at *
  generalize tkB W G ⟨yn, yd, yk, yv⟩ = ok at *
  go_enter Try.func23, Try.ntmps23
  go_wp2_with fail
  refine (KG _ hB).mono ?_
  rintro e w1 ⟨rfl, hb1⟩
  replace hB := below_then hB hb1
  replace R := R.below hb1
  replace X := X.below hb1
  replace Y := Y.below hb1
  clear hb1 KG
  obtain ⟨hxl, x0, x1⟩ := X.c2
  obtain ⟨hyl, y0, y1, y2, y3⟩ := Y.c4
  have hrr := R.1
  go_wp2_with fail
  refine (KT2 _ hB).mono ?_
  rintro e w2 ⟨u, rfl, hu, hb2⟩
  replace hB := below_then hB hb2
  replace R := R.below hb2
  have iW := HT0.1.below hB
  have iC : IR w2 u ZN := by
    rcases hu with ⟨rfl, rfl⟩ | hu
    · exact HT0.2.below hB
    · exact IR_of_owns hu rfl
  clear hb2 KT2 X Y hxl x0 x1 hyl y0 y1 y2 y3 HT0 hu
  obtain ⟨ua, uc, rfl, _⟩ := id iC
  have hrb : Hid (w.heap.size + 1 + 1 < w2.heap.size) := R.1
  have B6 := below_alloc w2 (.cells #[.slice wa W.length wb, .slice ua ZN.length uc] 41)
  have Z := Box.new w2 #[.slice wa W.length wb, .slice ua ZN.length uc] 41
  replace R := R.below B6
  replace iW := iW.below B6
  replace iC := iC.below B6
  have hB5 := below_then hB B6
  cases ok with
  | false =>
    obtain ⟨hvl, v0, v1, f0, f1⟩ := R.f2
    clear iW iC Z B6 R hB hrb
    go_wp2
    exact bodyPost_ret (v := .tuple #[.agg #[.slice none 0 0, .slice none 0 0], .bool false]) (by simp [results, Try.results23, go_sem, v0, v1]) rfl ⟨_, _, rfl, OT.nil _ _, (hB5.setCell (by simp; omega) _).setCell (by simp; omega) _⟩
  | true =>
  go_upto_region 6 with fail
  obtain ⟨w5, hw5⟩ : ∃ w5, w5 = w2.alloc (.cells #[.slice wa W.length wb, .slice ua ZN.length uc] 41) := ⟨_, rfl⟩
  rw [← hw5] at Z R iW iC hB5 B6 ⊢
  clear hw5 hB
  have hB := hB5
  have hC5 := Below.refl w5.heap.size w5
  replace hC5 := hC5.drew
  replace hrb := hrb.out
  have hbz := Z.1
  have hbr := R.1
  have hz5 := hB5.size
  generalize hb6 : w2.heap.size = b6 at Z hbz B6 hrb ⊢
  clear hb6 B6
  refine wp_region_held_drew (S := fun w' => Box w' b6 [.slice wa W.length wb, .slice ua ZN.length uc]) (by kernel_rfl) (Z.below (Below.refl _ _).drew) (fun hHeld => ?_)
  generalize w5.drew = n0 at *
  refine wpAnyH_take (i := 1) (oi := { dst := some 22, op := Op.fieldAddr 41 (Operand.tmp 6) 0, type := 0, pos := "l13_chunk.go:134", after := #[], guard := none }) (v := .pointer (some ⟨b6, 0, none⟩)) rfl (by kernel_rfl) (by kernel_rfl) (by kernel_rfl) (fun _ _ _ h => h) (Or.inl ⟨by rfl, ?_⟩) (by assumption) ?_
  · intro wx hSw
    clear hSw hHeld; go_simp
  simp only [Act.put, List.setIfInBounds_toArray, List.set_cons_zero, List.set_cons_succ]
  refine wpAnyH_take (i := 2) (oi := { dst := some 23, op := Op.load 39 (Operand.tmp 22), type := 39, pos := "l13_chunk.go:134", after := #[{ on := 1, ground := Ground.data }], guard := none }) (v := .slice wa W.length wb) rfl (by kernel_rfl) (by kernel_rfl) (by kernel_rfl) (fun _ _ _ h => h) (Or.inl ⟨by rfl, ?_⟩) (by assumption) ?_
  · intro wx hSw
    have e := hSw.2.1 0 _ rfl; clear hHeld hSw; go_simp
  simp only [Act.put, List.setIfInBounds_toArray, List.set_cons_zero, List.set_cons_succ]
  refine wpAnyH_take (i := 5) (oi := { dst := some 26, op := Op.fieldAddr 41 (Operand.tmp 6) 1, type := 0, pos := "l13_chunk.go:134", after := #[], guard := none }) (v := .pointer (some ⟨b6, 1, none⟩)) rfl (by kernel_rfl) (by kernel_rfl) (by kernel_rfl) (fun _ _ _ h => h) (Or.inl ⟨by rfl, ?_⟩) (by assumption) ?_
  · intro wx hSw
    clear hSw hHeld; go_simp
  simp only [Act.put, List.setIfInBounds_toArray, List.set_cons_zero, List.set_cons_succ]
  refine wpAnyH_take (i := 6) (oi := { dst := some 27, op := Op.load 30 (Operand.tmp 26), type := 30, pos := "l13_chunk.go:134", after := #[{ on := 5, ground := Ground.data }], guard := none }) (v := .slice ua ZN.length uc) rfl (by kernel_rfl) (by kernel_rfl) (by kernel_rfl) (fun _ _ _ h => h) (Or.inl ⟨by rfl, ?_⟩) (by assumption) ?_
  · intro wx hSw
    have e := hSw.2.1 1 _ rfl; clear hHeld hSw; go_simp
  simp only [Act.put, List.setIfInBounds_toArray, List.set_cons_zero, List.set_cons_succ]
  refine wpAnyH_ready (rs := [0, 4]) (by kernel_rfl) (by simp) ?_
  refine (AllReadyH.cons (o := { dst := some 21, op := Op.buildSlice 39 0 #[], type := 39, pos := "l13_chunk.go:134", after := #[], guard := none }) rfl (fun K hK => ?_) (AllReadyH.cons (o := { dst := some 25, op := Op.buildSlice 30 0 #[], type := 30, pos := "l13_chunk.go:134", after := #[], guard := none }) rfl (fun K hK => ?_) AllReadyH.nil))
  · clear hHeld
    have hcz := hC5.size
    have OW : (n0.alloc (.cells #[] 54)).ownsRow w5.heap.size 54 2 (.slice (some ⟨n0.heap.size, 0, none⟩) 0 0) 0 (flat2 []) := World.ownsRow_lit n0 #[] 0 hcz (by simp [maxLen]) (by simp)
    replace hC5 := hC5.alloc hcz (.cells #[] 54)
    try (replace OC := owns_below OC (below_alloc _ (.cells #[] 54)))
    go_simp
    refine hK.out _ _ (Z.under hC5 hbz) (fun hHeld => ?_)
    clear hK K hcz
    generalize n0.alloc (.cells #[] 54) = n1 at *
    generalize n0.heap.size = gw at *
    refine wpAnyH_ready (rs := [3, 4]) (by kernel_rfl) (by simp) ?_
    refine (AllReadyH.cons (o := { dst := some 24, op := Op.call { callee := Callee.builtin Builtin.append, args := #[Operand.tmp 21, Operand.tmp 23], argTypes := #[39, 39] }, type := 39, pos := "l13_chunk.go:134", after := #[{ on := 0, ground := Ground.data }, { on := 2, ground := Ground.data }], guard := none }) rfl (fun K hK => ?_) (AllReadyH.cons (o := { dst := some 25, op := Op.buildSlice 30 0 #[], type := 30, pos := "l13_chunk.go:134", after := #[], guard := none }) rfl (fun K hK => ?_) AllReadyH.nil))
    · clear hHeld
      have hcz := hC5.size
      have gl := owns_ge OW
      refine wp_append_wts _ _ _ rfl rfl w5.heap.size (.slice (some ⟨gw, 0, none⟩) 0 0) 0 [] rfl OW (.slice wa W.length wb) W rfl (iW.below hC5) (by omega) hcz ?_
      intro vwts n2 Owts hgr
      simp only [Nat.zero_add, List.nil_append] at Owts
      try (replace OC := owns_type_kept OC OW (by decide) hgr)
      replace hC5 := hC5.grown hgr hcz (fun k hk => gl k hk)
      obtain ⟨wtsa, wtsb, rfl⟩ := owns_shape Owts
      clear OW hgr gl
      have OW := Owts
      clear Owts
      refine hK.out _ _ (Z.under hC5 hbz) (fun hHeld => ?_)
      clear hK K hcz
      refine wpAnyH_ready (rs := [4]) (by kernel_rfl) (by simp) ?_
      refine (AllReadyH.cons (o := { dst := some 25, op := Op.buildSlice 30 0 #[], type := 30, pos := "l13_chunk.go:134", after := #[], guard := none }) rfl (fun K hK => ?_) AllReadyH.nil)
      clear hHeld
      have hcz := hC5.size
      have OC : (n2.alloc (.cells #[] 37)).ownsRow w5.heap.size 37 4 (.slice (some ⟨n2.heap.size, 0, none⟩) 0 0) 0 (flat4 []) := World.ownsRow_lit n2 #[] 0 hcz (by simp [maxLen]) (by simp)
      replace hC5 := hC5.alloc hcz (.cells #[] 37)
      try (replace OW := owns_below OW (below_alloc _ (.cells #[] 37)))
      go_simp
      refine hK.out _ _ (Z.under hC5 hbz) (fun hHeld => ?_)
      clear hK K hcz
      generalize n2.alloc (.cells #[] 37) = n3 at *
      generalize n2.heap.size = gc at *
      refine wpAnyH_ready (rs := [7]) (by kernel_rfl) (by simp) ?_
      refine (AllReadyH.cons (o := { dst := some 28, op := Op.call { callee := Callee.builtin Builtin.append, args := #[Operand.tmp 25, Operand.tmp 27], argTypes := #[30, 30] }, type := 30, pos := "l13_chunk.go:134", after := #[{ on := 4, ground := Ground.data }, { on := 6, ground := Ground.data }, { on := 3, ground := Ground.chain }], guard := none }) rfl (fun K hK => ?_) AllReadyH.nil)
      clear hHeld
      have hcz := hC5.size
      have gl := owns_ge OC
      refine wp_append_cks _ _ _ rfl rfl w5.heap.size (.slice (some ⟨gc, 0, none⟩) 0 0) 0 [] rfl OC (.slice ua ZN.length uc) ZN rfl (iC.below hC5) (by omega) hcz ?_
      intro vcks n4 Ocks hgr
      simp only [Nat.zero_add, List.nil_append] at Ocks
      try (replace OW := owns_type_kept OW OC (by decide) hgr)
      replace hC5 := hC5.grown hgr hcz (fun k hk => gl k hk)
      obtain ⟨cksa, cksb, rfl⟩ := owns_shape Ocks
      clear OC hgr gl
      have OC := Ocks
      clear Ocks
      refine hK.out _ _ (Z.under hC5 hbz) (fun hHeld => ?_)
      clear hK K hcz
      refine wpAnyH_take (i := 8) (oi := { dst := some 29, op := Op.build 41 #[(0, Operand.tmp 24), (1, Operand.tmp 28)], type := 41, pos := "l13_chunk.go:134", after := #[{ on := 3, ground := Ground.data }, { on := 7, ground := Ground.data }], guard := none }) (v := .agg #[.slice wtsa W.length wtsb, .slice cksa ZN.length cksb]) rfl (by kernel_rfl) (by kernel_rfl) (by kernel_rfl) (fun _ _ _ h => h) (Or.inl ⟨by rfl, ?_⟩) (by assumption) ?_
      · intro wx hSw
        clear hSw hHeld; go_simp
      simp only [Act.put, List.setIfInBounds_toArray, List.set_cons_zero, List.set_cons_succ]
      refine wpAnyH_ready (rs := [9]) (by kernel_rfl) (by simp) ?_
      refine AllReadyH.cons (o := { dst := none, op := Op.store 41 (Operand.tmp 4) (Operand.tmp 29), type := 0, pos := "l13_chunk.go:134", after := #[{ on := 8, ground := Ground.data }, { on := 7, ground := Ground.chain }, { on := 0, ground := Ground.phase }, { on := 1, ground := Ground.phase }, { on := 2, ground := Ground.phase }, { on := 3, ground := Ground.phase }, { on := 4, ground := Ground.phase }, { on := 5, ground := Ground.phase }, { on := 6, ground := Ground.phase }, { on := 7, ground := Ground.phase }, { on := 8, ground := Ground.phase }], guard := none }) rfl (fun K hK => ?_) AllReadyH.nil
      clear hHeld
      have Rn := R.below hC5
      obtain ⟨rl, t0, t1, f0, f1⟩ := Rn.f2
      have hC := put2_chg n4 (w.heap.size + 1 + 1) (.slice wtsa W.length wtsb) (.slice cksa ZN.length cksb)
      have geW := owns_ge OW
      have geC := owns_ge OC
      have OWn := hC.owns OW (fun g hg hh => by have := geW g hg; omega)
      have OCn := hC.owns OC (fun g hg hh => by have := geC g hg; omega)
      have Zn := hC.box (Z.under hC5 hbz) (by omega)
      have Rp := put2_box Rn (.slice wtsa W.length wtsb) (.slice cksa ZN.length cksb)
      have hBn := (below_then hB hC5).trans (hC.below (B := w.heap.size) (below_then hB hC5).size (fun k hk => by omega))
      clear hC
      go_simp
      refine hK.out _ (put2 n4 (w.heap.size + 1 + 1) (.slice wtsa W.length wtsb) (.slice cksa ZN.length cksb)) Zn (fun hHeld => ?_)
      clear hK K t0 t1 f0 f1
      refine wpAnyH_take (i := 10) (oi := { dst := some 5, op := Op.assign (Operand.const (Value.bool true)), type := 4, pos := "l13_chunk.go:134", after := #[{ on := 9, ground := Ground.chain }, { on := 0, ground := Ground.phase }, { on := 1, ground := Ground.phase }, { on := 2, ground := Ground.phase }, { on := 3, ground := Ground.phase }, { on := 4, ground := Ground.phase }, { on := 5, ground := Ground.phase }, { on := 6, ground := Ground.phase }, { on := 7, ground := Ground.phase }, { on := 8, ground := Ground.phase }, { on := 9, ground := Ground.phase }], guard := none }) (v := .bool true) rfl (by kernel_rfl) (by kernel_rfl) (by kernel_rfl) (fun _ _ _ h => h) (Or.inl ⟨by rfl, ?_⟩) (by assumption) ?_
      · intro wx hSw
        clear hSw hHeld; go_simp
      simp only [Act.put, List.setIfInBounds_toArray, List.set_cons_zero, List.set_cons_succ]
      clear hHeld
      refine wpAnyH_done (by kernel_rfl) ?_ _
      obtain ⟨rl, t0, t1, f0, f1⟩ := Rp.f2
      clear Zn Rp R Z iW iC OW OC hC5
      go_wp2
      exact bodyPost_ret (v := .tuple #[.agg #[.slice wtsa W.length wtsb, .slice cksa ZN.length cksb], .bool true]) (by simp [results, Try.results23, go_sem, t0, t1]) rfl ⟨_, _, rfl, ⟨owns_mono' OWn hz5, owns_mono' OCn hz5⟩, hBn⟩
    · clear hHeld
      have hcz := hC5.size
      have OC : (n1.alloc (.cells #[] 37)).ownsRow w5.heap.size 37 4 (.slice (some ⟨n1.heap.size, 0, none⟩) 0 0) 0 (flat4 []) := World.ownsRow_lit n1 #[] 0 hcz (by simp [maxLen]) (by simp)
      replace hC5 := hC5.alloc hcz (.cells #[] 37)
      try (replace OW := owns_below OW (below_alloc _ (.cells #[] 37)))
      go_simp
      refine hK.out _ _ (Z.under hC5 hbz) (fun hHeld => ?_)
      clear hK K hcz
      generalize n1.alloc (.cells #[] 37) = n5 at *
      generalize n1.heap.size = gc at *
      refine wpAnyH_ready (rs := [3]) (by kernel_rfl) (by simp) ?_
      refine (AllReadyH.cons (o := { dst := some 24, op := Op.call { callee := Callee.builtin Builtin.append, args := #[Operand.tmp 21, Operand.tmp 23], argTypes := #[39, 39] }, type := 39, pos := "l13_chunk.go:134", after := #[{ on := 0, ground := Ground.data }, { on := 2, ground := Ground.data }], guard := none }) rfl (fun K hK => ?_) AllReadyH.nil)
      clear hHeld
      have hcz := hC5.size
      have gl := owns_ge OW
      refine wp_append_wts _ _ _ rfl rfl w5.heap.size (.slice (some ⟨gw, 0, none⟩) 0 0) 0 [] rfl OW (.slice wa W.length wb) W rfl (iW.below hC5) (by omega) hcz ?_
      intro vwts n6 Owts hgr
      simp only [Nat.zero_add, List.nil_append] at Owts
      try (replace OC := owns_type_kept OC OW (by decide) hgr)
      replace hC5 := hC5.grown hgr hcz (fun k hk => gl k hk)
      obtain ⟨wtsa, wtsb, rfl⟩ := owns_shape Owts
      clear OW hgr gl
      have OW := Owts
      clear Owts
      refine hK.out _ _ (Z.under hC5 hbz) (fun hHeld => ?_)
      clear hK K hcz
      refine wpAnyH_ready (rs := [7]) (by kernel_rfl) (by simp) ?_
      refine (AllReadyH.cons (o := { dst := some 28, op := Op.call { callee := Callee.builtin Builtin.append, args := #[Operand.tmp 25, Operand.tmp 27], argTypes := #[30, 30] }, type := 30, pos := "l13_chunk.go:134", after := #[{ on := 4, ground := Ground.data }, { on := 6, ground := Ground.data }, { on := 3, ground := Ground.chain }], guard := none }) rfl (fun K hK => ?_) AllReadyH.nil)
      clear hHeld
      have hcz := hC5.size
      have gl := owns_ge OC
      refine wp_append_cks _ _ _ rfl rfl w5.heap.size (.slice (some ⟨gc, 0, none⟩) 0 0) 0 [] rfl OC (.slice ua ZN.length uc) ZN rfl (iC.below hC5) (by omega) hcz ?_
      intro vcks n7 Ocks hgr
      simp only [Nat.zero_add, List.nil_append] at Ocks
      try (replace OW := owns_type_kept OW OC (by decide) hgr)
      replace hC5 := hC5.grown hgr hcz (fun k hk => gl k hk)
      obtain ⟨cksa, cksb, rfl⟩ := owns_shape Ocks
      clear OC hgr gl
      have OC := Ocks
      clear Ocks
      refine hK.out _ _ (Z.under hC5 hbz) (fun hHeld => ?_)
      clear hK K hcz
      refine wpAnyH_take (i := 8) (oi := { dst := some 29, op := Op.build 41 #[(0, Operand.tmp 24), (1, Operand.tmp 28)], type := 41, pos := "l13_chunk.go:134", after := #[{ on := 3, ground := Ground.data }, { on := 7, ground := Ground.data }], guard := none }) (v := .agg #[.slice wtsa W.length wtsb, .slice cksa ZN.length cksb]) rfl (by kernel_rfl) (by kernel_rfl) (by kernel_rfl) (fun _ _ _ h => h) (Or.inl ⟨by rfl, ?_⟩) (by assumption) ?_
      · intro wx hSw
        clear hSw hHeld; go_simp
      simp only [Act.put, List.setIfInBounds_toArray, List.set_cons_zero, List.set_cons_succ]
      refine wpAnyH_ready (rs := [9]) (by kernel_rfl) (by simp) ?_
      refine AllReadyH.cons (o := { dst := none, op := Op.store 41 (Operand.tmp 4) (Operand.tmp 29), type := 0, pos := "l13_chunk.go:134", after := #[{ on := 8, ground := Ground.data }, { on := 7, ground := Ground.chain }, { on := 0, ground := Ground.phase }, { on := 1, ground := Ground.phase }, { on := 2, ground := Ground.phase }, { on := 3, ground := Ground.phase }, { on := 4, ground := Ground.phase }, { on := 5, ground := Ground.phase }, { on := 6, ground := Ground.phase }, { on := 7, ground := Ground.phase }, { on := 8, ground := Ground.phase }], guard := none }) rfl (fun K hK => ?_) AllReadyH.nil
      clear hHeld
      have Rn := R.below hC5
      obtain ⟨rl, t0, t1, f0, f1⟩ := Rn.f2
      have hC := put2_chg n7 (w.heap.size + 1 + 1) (.slice wtsa W.length wtsb) (.slice cksa ZN.length cksb)
      have geW := owns_ge OW
      have geC := owns_ge OC
      have OWn := hC.owns OW (fun g hg hh => by have := geW g hg; omega)
      have OCn := hC.owns OC (fun g hg hh => by have := geC g hg; omega)
      have Zn := hC.box (Z.under hC5 hbz) (by omega)
      have Rp := put2_box Rn (.slice wtsa W.length wtsb) (.slice cksa ZN.length cksb)
      have hBn := (below_then hB hC5).trans (hC.below (B := w.heap.size) (below_then hB hC5).size (fun k hk => by omega))
      clear hC
      go_simp
      refine hK.out _ (put2 n7 (w.heap.size + 1 + 1) (.slice wtsa W.length wtsb) (.slice cksa ZN.length cksb)) Zn (fun hHeld => ?_)
      clear hK K t0 t1 f0 f1
      refine wpAnyH_take (i := 10) (oi := { dst := some 5, op := Op.assign (Operand.const (Value.bool true)), type := 4, pos := "l13_chunk.go:134", after := #[{ on := 9, ground := Ground.chain }, { on := 0, ground := Ground.phase }, { on := 1, ground := Ground.phase }, { on := 2, ground := Ground.phase }, { on := 3, ground := Ground.phase }, { on := 4, ground := Ground.phase }, { on := 5, ground := Ground.phase }, { on := 6, ground := Ground.phase }, { on := 7, ground := Ground.phase }, { on := 8, ground := Ground.phase }, { on := 9, ground := Ground.phase }], guard := none }) (v := .bool true) rfl (by kernel_rfl) (by kernel_rfl) (by kernel_rfl) (fun _ _ _ h => h) (Or.inl ⟨by rfl, ?_⟩) (by assumption) ?_
      · intro wx hSw
        clear hSw hHeld; go_simp
      simp only [Act.put, List.setIfInBounds_toArray, List.set_cons_zero, List.set_cons_succ]
      clear hHeld
      refine wpAnyH_done (by kernel_rfl) ?_ _
      obtain ⟨rl, t0, t1, f0, f1⟩ := Rp.f2
      clear Zn Rp R Z iW iC OW OC hC5
      go_wp2
      exact bodyPost_ret (v := .tuple #[.agg #[.slice wtsa W.length wtsb, .slice cksa ZN.length cksb], .bool true]) (by simp [results, Try.results23, go_sem, t0, t1]) rfl ⟨_, _, rfl, ⟨owns_mono' OWn hz5, owns_mono' OCn hz5⟩, hBn⟩
  · clear hHeld
    have hcz := hC5.size
    have OC : (n0.alloc (.cells #[] 37)).ownsRow w5.heap.size 37 4 (.slice (some ⟨n0.heap.size, 0, none⟩) 0 0) 0 (flat4 []) := World.ownsRow_lit n0 #[] 0 hcz (by simp [maxLen]) (by simp)
    replace hC5 := hC5.alloc hcz (.cells #[] 37)
    try (replace OW := owns_below OW (below_alloc _ (.cells #[] 37)))
    go_simp
    refine hK.out _ _ (Z.under hC5 hbz) (fun hHeld => ?_)
    clear hK K hcz
    generalize n0.alloc (.cells #[] 37) = n8 at *
    generalize n0.heap.size = gc at *
    refine wpAnyH_ready (rs := [0]) (by kernel_rfl) (by simp) ?_
    refine (AllReadyH.cons (o := { dst := some 21, op := Op.buildSlice 39 0 #[], type := 39, pos := "l13_chunk.go:134", after := #[], guard := none }) rfl (fun K hK => ?_) AllReadyH.nil)
    clear hHeld
    have hcz := hC5.size
    have OW : (n8.alloc (.cells #[] 54)).ownsRow w5.heap.size 54 2 (.slice (some ⟨n8.heap.size, 0, none⟩) 0 0) 0 (flat2 []) := World.ownsRow_lit n8 #[] 0 hcz (by simp [maxLen]) (by simp)
    replace hC5 := hC5.alloc hcz (.cells #[] 54)
    try (replace OC := owns_below OC (below_alloc _ (.cells #[] 54)))
    go_simp
    refine hK.out _ _ (Z.under hC5 hbz) (fun hHeld => ?_)
    clear hK K hcz
    generalize n8.alloc (.cells #[] 54) = n9 at *
    generalize n8.heap.size = gw at *
    refine wpAnyH_ready (rs := [3]) (by kernel_rfl) (by simp) ?_
    refine (AllReadyH.cons (o := { dst := some 24, op := Op.call { callee := Callee.builtin Builtin.append, args := #[Operand.tmp 21, Operand.tmp 23], argTypes := #[39, 39] }, type := 39, pos := "l13_chunk.go:134", after := #[{ on := 0, ground := Ground.data }, { on := 2, ground := Ground.data }], guard := none }) rfl (fun K hK => ?_) AllReadyH.nil)
    clear hHeld
    have hcz := hC5.size
    have gl := owns_ge OW
    refine wp_append_wts _ _ _ rfl rfl w5.heap.size (.slice (some ⟨gw, 0, none⟩) 0 0) 0 [] rfl OW (.slice wa W.length wb) W rfl (iW.below hC5) (by omega) hcz ?_
    intro vwts n10 Owts hgr
    simp only [Nat.zero_add, List.nil_append] at Owts
    try (replace OC := owns_type_kept OC OW (by decide) hgr)
    replace hC5 := hC5.grown hgr hcz (fun k hk => gl k hk)
    obtain ⟨wtsa, wtsb, rfl⟩ := owns_shape Owts
    clear OW hgr gl
    have OW := Owts
    clear Owts
    refine hK.out _ _ (Z.under hC5 hbz) (fun hHeld => ?_)
    clear hK K hcz
    refine wpAnyH_ready (rs := [7]) (by kernel_rfl) (by simp) ?_
    refine (AllReadyH.cons (o := { dst := some 28, op := Op.call { callee := Callee.builtin Builtin.append, args := #[Operand.tmp 25, Operand.tmp 27], argTypes := #[30, 30] }, type := 30, pos := "l13_chunk.go:134", after := #[{ on := 4, ground := Ground.data }, { on := 6, ground := Ground.data }, { on := 3, ground := Ground.chain }], guard := none }) rfl (fun K hK => ?_) AllReadyH.nil)
    clear hHeld
    have hcz := hC5.size
    have gl := owns_ge OC
    refine wp_append_cks _ _ _ rfl rfl w5.heap.size (.slice (some ⟨gc, 0, none⟩) 0 0) 0 [] rfl OC (.slice ua ZN.length uc) ZN rfl (iC.below hC5) (by omega) hcz ?_
    intro vcks n11 Ocks hgr
    simp only [Nat.zero_add, List.nil_append] at Ocks
    try (replace OW := owns_type_kept OW OC (by decide) hgr)
    replace hC5 := hC5.grown hgr hcz (fun k hk => gl k hk)
    obtain ⟨cksa, cksb, rfl⟩ := owns_shape Ocks
    clear OC hgr gl
    have OC := Ocks
    clear Ocks
    refine hK.out _ _ (Z.under hC5 hbz) (fun hHeld => ?_)
    clear hK K hcz
    refine wpAnyH_take (i := 8) (oi := { dst := some 29, op := Op.build 41 #[(0, Operand.tmp 24), (1, Operand.tmp 28)], type := 41, pos := "l13_chunk.go:134", after := #[{ on := 3, ground := Ground.data }, { on := 7, ground := Ground.data }], guard := none }) (v := .agg #[.slice wtsa W.length wtsb, .slice cksa ZN.length cksb]) rfl (by kernel_rfl) (by kernel_rfl) (by kernel_rfl) (fun _ _ _ h => h) (Or.inl ⟨by rfl, ?_⟩) (by assumption) ?_
    · intro wx hSw
      clear hSw hHeld; go_simp
    simp only [Act.put, List.setIfInBounds_toArray, List.set_cons_zero, List.set_cons_succ]
    refine wpAnyH_ready (rs := [9]) (by kernel_rfl) (by simp) ?_
    refine AllReadyH.cons (o := { dst := none, op := Op.store 41 (Operand.tmp 4) (Operand.tmp 29), type := 0, pos := "l13_chunk.go:134", after := #[{ on := 8, ground := Ground.data }, { on := 7, ground := Ground.chain }, { on := 0, ground := Ground.phase }, { on := 1, ground := Ground.phase }, { on := 2, ground := Ground.phase }, { on := 3, ground := Ground.phase }, { on := 4, ground := Ground.phase }, { on := 5, ground := Ground.phase }, { on := 6, ground := Ground.phase }, { on := 7, ground := Ground.phase }, { on := 8, ground := Ground.phase }], guard := none }) rfl (fun K hK => ?_) AllReadyH.nil
    clear hHeld
    have Rn := R.below hC5
    obtain ⟨rl, t0, t1, f0, f1⟩ := Rn.f2
    have hC := put2_chg n11 (w.heap.size + 1 + 1) (.slice wtsa W.length wtsb) (.slice cksa ZN.length cksb)
    have geW := owns_ge OW
    have geC := owns_ge OC
    have OWn := hC.owns OW (fun g hg hh => by have := geW g hg; omega)
    have OCn := hC.owns OC (fun g hg hh => by have := geC g hg; omega)
    have Zn := hC.box (Z.under hC5 hbz) (by omega)
    have Rp := put2_box Rn (.slice wtsa W.length wtsb) (.slice cksa ZN.length cksb)
    have hBn := (below_then hB hC5).trans (hC.below (B := w.heap.size) (below_then hB hC5).size (fun k hk => by omega))
    clear hC
    go_simp
    refine hK.out _ (put2 n11 (w.heap.size + 1 + 1) (.slice wtsa W.length wtsb) (.slice cksa ZN.length cksb)) Zn (fun hHeld => ?_)
    clear hK K t0 t1 f0 f1
    refine wpAnyH_take (i := 10) (oi := { dst := some 5, op := Op.assign (Operand.const (Value.bool true)), type := 4, pos := "l13_chunk.go:134", after := #[{ on := 9, ground := Ground.chain }, { on := 0, ground := Ground.phase }, { on := 1, ground := Ground.phase }, { on := 2, ground := Ground.phase }, { on := 3, ground := Ground.phase }, { on := 4, ground := Ground.phase }, { on := 5, ground := Ground.phase }, { on := 6, ground := Ground.phase }, { on := 7, ground := Ground.phase }, { on := 8, ground := Ground.phase }, { on := 9, ground := Ground.phase }], guard := none }) (v := .bool true) rfl (by kernel_rfl) (by kernel_rfl) (by kernel_rfl) (fun _ _ _ h => h) (Or.inl ⟨by rfl, ?_⟩) (by assumption) ?_
    · intro wx hSw
      clear hSw hHeld; go_simp
    simp only [Act.put, List.setIfInBounds_toArray, List.set_cons_zero, List.set_cons_succ]
    clear hHeld
    refine wpAnyH_done (by kernel_rfl) ?_ _
    obtain ⟨rl, t0, t1, f0, f1⟩ := Rp.f2
    clear Zn Rp R Z iW iC OW OC hC5
    go_wp2
    exact bodyPost_ret (v := .tuple #[.agg #[.slice wtsa W.length wtsb, .slice cksa ZN.length cksb], .bool true]) (by simp [results, Try.results23, go_sem, t0, t1]) rfl ⟨_, _, rfl, ⟨owns_mono' OWn hz5, owns_mono' OCn hz5⟩, hBn⟩
end Go.Proofs.Ytocaigffikdlhaa
