/-
  impl: a tower put into a list of one's own (ladder.with).
  The first that is not less: impl.seek, spec.l4First on a good list.
  impl.has.
  impl.InsertSkip.
-/
import Derived.Test.YtdaldkcildbcmaaDoorP7ToP8
import Derived.Deep.RegionHeld3
import Derived.Maps.AppendAt
import Derived.Test.YtdaldkcildbcmaaDoorJ3
import Derived.Test.YtdaldkcildbcmaaDoorO1
import Derived.Test.YtdaldkcildbcmaaDoorG5ToG6
import Derived.Test.YtdaldkcildbcmaaDoorT2
import Derived.Test.YtdaldkcildbcmaaDoorG2ToG4
import Derived.Deep.OwnRows
namespace Go.Proofs.YtdaldkcildbcmaaDoor
open Go.RowKit
set_option linter.unusedVariables false
set_option maxRecDepth 100000
theorem wp_append_own_at {P : Program} {w : World} {o : Oper} {a : Act} {K : Act → World → Prop} {Q : Exit → Act → World → Prop} (s x : Operand) (t : TypeId)
    (ho : o.op = .call { callee := .builtin .append, args := #[s, x], argTypes := #[t, t] })
    (base : Nat) (e : TypeId) (i : TypeInfo) (z : Value) (size bytes : Nat) (ht : P.underlying t = some (.slice e)) (hi : P.info? e = some i) (hz : i.zero = some z)
    (hsize : i.size = size) (hby : i.bytes = bytes) (hzs : z.cells.size = size) (hsz : 0 < size)
    (v : Value) (n : Nat) (xs : List Value) (hs : a.eval s = v) (hown : w.ownsRow base e size v n xs)
    (ad : Addr) (m c : Nat) (news : List Value) (hx : a.eval x = .slice (some ad) m c) (hl : news.length = m * size) (hnews : ∀ j u, news[j]? = some u → w.cell? (ad.add j) = some u) (h1 : ∀ u ∈ news, u.oneCell' = true)
    (h63 : n + m ≤ maxLen) (hbytes : (n + m) * bytes ≤ 140737488355328) (hbase : base ≤ w.heap.size)
    (h : ∀ v' w', w'.ownsRow base e size v' (n + m) (xs ++ news) → w.grownBy w' v.ownBlock → (v'.ownBlock = v.ownBlock ∨ v'.ownBlock = some w.heap.size) → K (a.put o.dst v') w') : o.wp P a w K Q := by
  obtain ⟨v', w', hr, h2, h3, h4, h5⟩ := run_append_own_at (P := P) w base t o.type e i z size bytes ht hi hz hsize hby hzs hsz v n xs hown ad m c news hl hnews h1 h63 hbytes hbase
  unfold Oper.wp execOp
  simp only [ho, resolve, invoke, builtin, Sem.run_bind, Sem.run_pure, Result.andThen_ok, List.map_toArray, List.map_cons, List.map_nil, hs, hx, hr]
  exact h v' w' h2 h3 h5

theorem blk_eq {g n c b : Nat} (h : (Value.slice (some ⟨g, 0, none⟩) n c).ownBlock = some b) : b = g := by simpa [Value.ownBlock] using h.symm
theorem Chg.new {S : Nat → Prop} {w a b : World} (h : Chg S w a) (c : Chg (fun k => w.heap.size ≤ k) a b) : Chg S w b :=
  ⟨c.os.trans h.os, c.tape.trans h.tape, c.output.trans h.output, Nat.le_trans h.size c.size, fun k hk hs => (c.block k (Nat.lt_of_lt_of_le hk h.size) (fun x => by omega)).trans (h.block k hk hs)⟩
/-- The number of the first that is not less, or -1. -/
def skN (hs : List Int) (ts : List Tw) (t : Tw) : Int := NX hs ts (SkS hs ts t 5).1 0

set_option maxHeartbeats 4000000 in
theorem linksFrom_fix (x y : Value) (hs : List Int) (ts : List Tw) (a : Int) (lv : Nat) (w : World) (hx : IL w x hs) (hy : TW w y ts) (h5 : hs.length = 5) (hl : lv < 5) (hn : ts.length ≤ 60) (ha : a = -1 ∨ okAt ts lv a) :
    ∃ b off n c, lv < n ∧ b < w.heap.size ∧ w.cell? ⟨b, off + lv, none⟩ = some (.int .i64 (NX hs ts a lv)) ∧ ∀ w', Below w.heap.size w w' →
      Calls Tryd.prog 85 #[.agg #[x, y], .int .i64 a] w' fun e w'' => e = .returned (.slice (some ⟨b, off, none⟩) n c) ∧ Below w'.heap.size w' w'' := by
  rcases ha with rfl | ⟨a0, a1, a2⟩
  · rw [NX_head]
    obtain ⟨ax, cx, rfl, hcx⟩ := hx
    obtain ⟨bx, ox, rfl, hbx, hcell⟩ := hcx (by intro e; simp [e] at h5)
    have c0 := hcell lv (by omega)
    rw [show hs[lv] = hs.getD lv 0 from by simp [List.getD, h5, hl]] at c0
    clear hcell hcx
    rw [h5]
    refine ⟨bx, ox, 5, cx, hl, hbx, c0, fun w' hb => ?_⟩
    go_enter Tryd.func85, Tryd.ntmps85
    go_wp2
    go_ret
    exact ⟨rfl, below_alloc _ _⟩
  · obtain ⟨i, rfl⟩ := Int.eq_ofNat_of_zero_le a0
    rw [NX_at]
    have hit : i < ts.length := by omega
    obtain ⟨b, off, cap, u, rfl, hbl, ⟨z0, z1, z2, z3, z4⟩, hu⟩ := hy.cells i hit
    have HNX : Hid (nx ts (i : Int) lv = (tw ts (i : Int)).next.getD lv 0) := rfl
    generalize nx ts (i : Int) lv = nn at *
    generalize tw ts (i : Int) = s at *
    obtain ⟨sk, sn, sd, sv, sx⟩ := s
    dsimp only at z0 z1 z2 z3 hu a2 HNX
    obtain ⟨a', cap', rfl, hcu⟩ := hu
    obtain ⟨bu, ou, rfl, hbu, hcu⟩ := hcu (by intro e; simp [e] at a2)
    have cu := hcu lv a2
    rw [show sx[lv] = nn from by rw [HNX.out]; simp [List.getD, a2]] at cu
    refine ⟨bu, ou, sx.length, cap', a2, hbu, cu, fun w' hb => ?_⟩
    have hB := below_then hb (below_alloc w' (.cells #[x, .slice (some ⟨b, off, none⟩) ts.length cap] 74))
    replace z0 := (hB.cell (p := ⟨b, off + i * 5, none⟩) hbl).trans z0
    replace z1 := (hB.cell (p := ⟨b, off + i * 5 + 1, none⟩) hbl).trans z1
    replace z2 := (hB.cell (p := ⟨b, off + i * 5 + 2, none⟩) hbl).trans z2
    replace z3 := (hB.cell (p := ⟨b, off + i * 5 + 3, none⟩) hbl).trans z3
    replace z4 := (hB.cell (p := ⟨b, off + i * 5 + 4, none⟩) hbl).trans z4
    have hmt := method_links sk sv sn sd (.slice (some ⟨bu, ou, none⟩) sx.length cap')
    have hne : ((i : Int) == -1) = false := by simp
    clear hcu HNX
    go_enter Tryd.func85, Tryd.ntmps85
    go_wp2_with fail
    refine (links_any sk sv sn sd (.slice (some ⟨bu, ou, none⟩) sx.length cap') _).mono ?_
    rintro e w1 ⟨rfl, hb1⟩
    have hB1 := below_then (below_alloc _ _) hb1
    clear hb1 hmt z0 z1 z2 z3 z4
    go_wp2
    go_ret
    exact ⟨rfl, hB1⟩

set_option maxHeartbeats 4000000 in
theorem seek_any (x : Value) (ay : Option Addr) (cy : Nat) (hs : List Int) (ts : List Tw) (t : Tw) (ta : Option Addr) (tn tc : Nat) (w : World) (hx : IL w x hs) (hy : TW w (.slice ay ts.length cy) ts) (G : GoodI hs ts) :
    Calls Tryd.prog 57 #[.agg #[x, .slice ay ts.length cy], .agg #[.string t.key, .int .i64 t.seq, .int .i64 t.kind, .string t.val, .slice ta tn tc]] w fun e w' => e = .returned (.tuple #[.int .i64 (skN hs ts t), .int .i64 (SkS hs ts t 5).2]) ∧ Below w.heap.size w w' := by
  have KL := fun w hx hy => lastLess_any x ay cy hs ts t (.slice ta tn tc) w hx hy G
  have hok := SkS_ok G t 5 (by omega) 0 (by omega)
  obtain ⟨bl, ol, nl, cl, hnl, hbl, cu, KF⟩ := linksFrom_fix x (.slice ay ts.length cy) hs ts _ 0 w hx hy G.1 (by omega) G.2.1 hok
  have H0 := lastL_first hs ts t
  have HN : Hid (skN hs ts t = NX hs ts (SkS hs ts t 5).1 0) := rfl
  rw [← HN.out] at cu
  generalize skN hs ts t = N at *
  generalize lastL hs ts t 5 = LL at *
  generalize (SkS hs ts t 5).2 = M at *
  generalize (SkS hs ts t 5).1 = A at *
  generalize t.key = tk at *
  generalize t.seq = ts' at *
  generalize t.kind = td at *
  generalize t.val = tv at *
  obtain ⟨ax, cx, hxe, _⟩ := id hx
  subst hxe
  go_enter Tryd.func57, Tryd.ntmps57
  go_wp2_with fail
  refine (KL _ (hx.below (below2 _ _ _)) (hy.below (below2 _ _ _))).mono ?_
  rintro e w1 ⟨⟨g, rfl, o1, _⟩, hb1⟩
  have hB1 := below_then (below2 _ _ _) hb1
  have X1 := ((Box.new w #[.slice ax hs.length cx, .slice ay ts.length cy] 74).alloc (.cells #[.string tk, .int .i64 ts', .int .i64 td, .string tv, .slice ta tn tc] 73)).below hb1
  have d0 : w1.cell? ⟨g, 0, none⟩ = some (.int .i64 A) := by
    rw [o1.cellAt 0 (by omega), List.getElem?_map, H0]; rfl
  have hgl := owns_lt3 o1
  clear hb1 KL o1
  go_wp2_with fail
  have hne : Nonempty (WC w1.heap.size w1) := ⟨⟨_, Below.refl _ _⟩⟩
  have px := fun x : WC w1.heap.size w1 => (X1.below x.ok).2.1 0 _ rfl
  have py := fun x : WC w1.heap.size w1 => (X1.below x.ok).2.1 1 _ rfl
  have pd := fun x : WC w1.heap.size w1 => (x.ok.cell (p := ⟨g, 0, none⟩) hgl).trans d0
  have pc := fun x : WC w1.heap.size w1 => ((below_then hB1 x.ok).cell (p := ⟨bl, ol + 0, none⟩) hbl).trans cu
  have KW := fun x : WC w1.heap.size w1 => KF x.w (below_then hB1 x.ok)
  simp only [Nat.add_zero] at pc
  have hnli : (0 : Int) < nl := by omega
  clear cu KF d0
  refine wp_region_calm (B := w1.heap.size) (W := w1) (by kernel_rfl) (by kernel_rfl) (Below.refl _ _) ?_
  repeat (go_big_quiet_step (first | (go_at_call 85; exact calm_of_below (Nat.le_refl _) (KW _))))
  refine wpQuiet_nil ?_
  intro _ hw'
  obtain ⟨x, hxx⟩ := hw'
  subst hxx
  have hB8 := below_then hB1 x.ok
  clear px py pd pc KW hne X1 hB1
  generalize x.w = w8 at *
  clear x
  go_wp2
  refine bodyPost_ret (v := .tuple #[.int .i64 N, .int .i64 M]) ?_ rfl ⟨rfl, hB8⟩
  simp [results, Tryd.results57, go_sem]
def hsB (hs : List Int) (ts : List Tw) (t : Tw) : Bool := decide (skN hs ts t ≠ -1) && decide (cT (tw ts (skN hs ts t)) t = 0)

/-- When an item is put into a list. -/
def InsOk (hs : List Int) (ts : List Tw) (t : Tw) : Prop := GoodI hs ts ∧ okItem t.key t.seq t.kind t.val = true ∧ ts.length ≠ 60 ∧ hsB hs ts t = false
/-- The list with it. -/
def insHs (hs : List Int) (ts : List Tw) (t : Tw) : List Int := (insTo hs ts (lastL hs ts t 5) ts.length (twN t.key t.seq.toNat)).1
def insTs (hs : List Int) (ts : List Tw) (t : Tw) : List Tw := (insTo hs ts (lastL hs ts t 5) ts.length (twN t.key t.seq.toNat)).2 ++ [⟨t.key, t.seq, t.kind, t.val, ownL hs ts (lastL hs ts t 5) (twN t.key t.seq.toNat)⟩]
theorem insHs_len (hs : List Int) (ts : List Tw) (t : Tw) : (insHs hs ts t).length = hs.length := (insTo_len _ _ _ _ _).1
theorem insTs_len (hs : List Int) (ts : List Tw) (t : Tw) : (insTs hs ts t).length = ts.length + 1 := by unfold insTs; rw [List.length_append, (insTo_len _ _ _ _ _).2]; rfl
theorem twN_le (k : ByteArray) (n : Nat) : 1 ≤ twN k n ∧ twN k n ≤ 5 := by
  have h5 : ∀ f x, twL f x ≤ f := by
    intro f
    induction f with
    | zero => intro x; exact Nat.le_refl _
    | succ f ih => intro x; simp only [twL]; have := ih (x / 4); split <;> omega
  unfold twN
  have := h5 4 (csum (twT k n).data.toList)
  omega
end Go.Proofs.YtdaldkcildbcmaaDoor
