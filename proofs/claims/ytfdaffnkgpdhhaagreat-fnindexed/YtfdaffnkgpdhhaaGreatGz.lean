/-
  The place of a block in which an item may be: the closure of impl.placeFor, slices.IndexFunc, impl.placeFor.
  What is got from a table: impl.placeFor, impl.GetFrom.
  What is got from a table: impl.GetFrom.
  What is got from a table: spec.GetFrom.
-/
import Derived.Test.YtfdaffnkgpdhhaaGreatXw
import Derived.Test.YtfdaffnkgpdhhaaGreatKr
import Derived.Test.YtfdaffnkgpdhhaaGreatWM
import Derived.Test.YtfdaffnkgpdhhaaGreatQz
import Derived.Test.YtfdaffnkgpdhhaaGreatIy
namespace Go.Proofs.YtfdaffnkgpdhhaaGreat
open Go.RowKit
set_option linter.unusedVariables false
set_option maxRecDepth 100000

/-- A place's last item is less than what is looked for. -/
def lessP (p : Pl) (key : ByteArray) (seq : Int) : Prop := cIt p.k key p.n seq < 0
instance (p : Pl) (key : ByteArray) (seq : Int) : Decidable (lessP p key seq) := by unfold lessP; infer_instance
set_option maxHeartbeats 1000000 in
theorem notLess_any (p : Pl) (B4 B5 : Nat) (key : ByteArray) (seq : Int) (w : World) (h4 : Box w B4 [.string key]) (h5 : Box w B5 [.int .i64 seq]) :
    Calls Tryz.prog 84 #[.agg #[.string p.k, .int .i64 p.n, .int .i64 p.a, .int .i64 p.z], .pointer (some ⟨B4, 0, none⟩), .pointer (some ⟨B5, 0, none⟩)] w fun e w' => e = .returned (.bool (decide (¬ lessP p key seq))) ∧ Below w.heap.size w w' := by
  obtain ⟨pk, pn, pa, pz⟩ := p
  dsimp only
  have HL : Hid (lessP ⟨pk, pn, pa, pz⟩ key seq ↔ cIt pk key pn seq < 0) := Iff.rfl
  obtain ⟨W, hW⟩ : ∃ W, W = w.alloc (.cells #[.string pk, .int .i64 pn, .int .i64 pa, .int .i64 pz] 50) := ⟨_, rfl⟩
  have hb0 : Below w.heap.size w W := by rw [hW]; exact below_alloc _ _
  have X : Box W w.heap.size [.string pk, .int .i64 pn, .int .i64 pa, .int .i64 pz] := by rw [hW]; exact Box.new w #[.string pk, .int .i64 pn, .int .i64 pa, .int .i64 pz] 50
  have k4 := (h4.below hb0).2.1 0 _ rfl
  have k5 := (h5.below hb0).2.1 0 _ rfl
  obtain ⟨_, x0, x1, x2, x3⟩ := X.c4
  rw [hW] at k4 k5 x0 x1 x2 x3
  have KO := fun w => orderOf_any pk ⟨#[]⟩ key ⟨#[]⟩ pn 0 seq 0 w
  generalize cIt pk key pn seq = c at *
  go_enter Tryz.func84, Tryz.ntmps84
  go_wp2_with fail
  rw [← hW]
  refine (KO _).mono ?_
  rintro e w2 ⟨rfl, hb2⟩
  have hB2 := below_then hb0 hb2
  by_cases hc : c < 0
  · have g1 : decide ((0 : Int) ≤ c) = false := decide_eq_false (by omega)
    have HR : Hid (decide (¬ lessP ⟨pk, pn, pa, pz⟩ key seq) = false) := decide_eq_false (fun h => h (HL.out.2 hc))
    clear KO HL
    go_wp2
    go_ret
    exact ⟨by rw [HR.out]; rfl, hB2⟩
  · have g1 : decide ((0 : Int) ≤ c) = true := decide_eq_true (by omega)
    have HR : Hid (decide (¬ lessP ⟨pk, pn, pa, pz⟩ key seq) = true) := decide_eq_true (fun h => hc (HL.out.1 h))
    clear KO HL
    go_wp2
    go_ret
    exact ⟨by rw [HR.out]; rfl, hB2⟩
/-- What IndexFunc answers: the first that is not less. -/
def IfA (ps : List Pl) (key : ByteArray) (seq : Int) (r : Int) : Prop :=
  (r = -1 ∧ ∀ j (h : j < ps.length), lessP ps[j] key seq) ∨ ∃ (i : Nat) (h : i < ps.length), r = i ∧ ¬ lessP ps[i] key seq ∧ ∀ j (hj : j < i), lessP (ps[j]'(Nat.lt_trans hj h)) key seq
set_option maxHeartbeats 2000000 in
theorem indexFunc_any (v : Value) (ps : List Pl) (B4 B5 : Nat) (key : ByteArray) (seq : Int) (w : World) (hv : PR w v ps) (hn : ps.length ≤ 1000) (h4 : Box w B4 [.string key]) (h5 : Box w B5 [.int .i64 seq]) :
    Calls Tryz.prog 83 #[v, .func (.func 84) #[] #[.pointer (some ⟨B4, 0, none⟩), .pointer (some ⟨B5, 0, none⟩)]] w fun e w' => ∃ r, e = .returned (.int .i64 r) ∧ IfA ps key seq r ∧ Below w.heap.size w w' := by
  obtain ⟨a, cap, rfl, hc⟩ := hv
  go_enter Tryz.func83, Tryz.ntmps83
  go_wp2_with fail
  go_loopw [8] (fun i wr => ∃ k : Nat, k ≤ ps.length ∧ i = .int .i64 k ∧ (∀ j (hj : j < ps.length), j < k → lessP ps[j] key seq) ∧ Below w.heap.size w wr) (fun i _ => ps.length - (intOf i).toNat)
  case atStart => exact ⟨0, Nat.zero_le _, rfl, fun j _ h => absurd h (by omega), Below.refl _ _⟩
  case round =>
    obtain ⟨k, hk, rfl, hall, hB⟩ := hrel
    by_cases hlt : k < ps.length
    · obtain ⟨b, off, rfl, hbl, hcell⟩ := hc (by intro e; rw [e] at hlt; simp at hlt)
      obtain ⟨c0, c1, c2, c3⟩ := hcell k hlt
      have d0 := (hB.cell (p := ⟨b, _, none⟩) hbl).trans c0
      have d1 := (hB.cell (p := ⟨b, _, none⟩) hbl).trans c1
      have d2 := (hB.cell (p := ⟨b, _, none⟩) hbl).trans c2
      have d3 := (hB.cell (p := ⟨b, _, none⟩) hbl).trans c3
      have K := notLess_any ps[k] B4 B5 key seq wr (h4.below hB) (h5.below hB)
      by_cases hl : lessP ps[k] key seq
      · have HA : Hid (∀ j (hj : j < ps.length), j < k + 1 → lessP ps[j] key seq) := fun j hj h => by
          rcases Nat.lt_or_ge j k with h1 | h1
          · exact hall j hj h1
          · obtain rfl : j = k := by omega
            exact hl
        rw [decide_eq_false (fun h => h hl)] at K
        clear hall hcell hc c0 c1 c2 c3 h4 h5 hl
        obtain ⟨p, hp⟩ : ∃ p, p = ps[k] := ⟨_, rfl⟩
        rw [← hp] at K d0 d1 d2 d3
        clear hp
        obtain ⟨pk, pn, pa, pz⟩ := p
        dsimp only at K d0 d1 d2 d3
        go_wp2_with fail
        refine K.mono ?_
        rintro e w2 ⟨rfl, hb2⟩
        have hB2 := below_then hB hb2
        clear K hB hb2 d0 d1 d2 d3
        go_wp2
        go_roundw
        case rel => exact ⟨k + 1, by omega, by go_num, HA.out, hB2⟩
        case measure => simp [intOf]; omega
      · have HA : Hid (IfA ps key seq (k : Int)) := .inr ⟨k, hlt, rfl, hl, fun j hj => hall j (by omega) hj⟩
        rw [decide_eq_true hl] at K
        clear hall hcell hc c0 c1 c2 c3 h4 h5 hl
        obtain ⟨p, hp⟩ : ∃ p, p = ps[k] := ⟨_, rfl⟩
        rw [← hp] at K d0 d1 d2 d3
        clear hp
        obtain ⟨pk, pn, pa, pz⟩ := p
        dsimp only at K d0 d1 d2 d3
        go_wp2_with fail
        refine K.mono ?_
        rintro e w2 ⟨rfl, hb2⟩
        have hB2 := below_then hB hb2
        clear K hB hb2 d0 d1 d2 d3
        go_wp2
        go_ret
        exact ⟨_, rfl, HA.out, hB2⟩
    · have HA : Hid (IfA ps key seq (-1)) := .inl ⟨rfl, fun j h => hall j h (by omega)⟩
      clear hall hc
      go_wp2
      go_ret
      exact ⟨_, rfl, HA.out, hB⟩
end Go.Proofs.YtfdaffnkgpdhhaaGreat

namespace Go.Proofs.YtfdaffnkgpdhhaaGreat
open Go.RowKit
set_option linter.unusedVariables false
set_option maxRecDepth 100000

/-- What placeFor answers. -/
def PfA (ps : List Pl) (has : Bool) (key : ByteArray) (seq : Int) (w : World) (e : Ending) (w' : World) : Prop :=
  Below w.heap.size w w' ∧ (((has = false ∨ ∀ j (h : j < ps.length), lessP ps[j] key seq) ∧ e = .returned (.tuple #[.agg #[.string ⟨#[]⟩, .int .i64 0, .int .i64 0, .int .i64 0], .bool false])) ∨
    (has = true ∧ ∃ (i : Nat) (h : i < ps.length), e = .returned (.tuple #[.agg #[.string ps[i].k, .int .i64 ps[i].n, .int .i64 ps[i].a, .int .i64 ps[i].z], .bool true]) ∧ ¬ lessP ps[i] key seq ∧ ∀ j (hj : j < i), lessP (ps[j]'(Nat.lt_trans hj h)) key seq))
set_option maxHeartbeats 4000000 in
theorem placeFor_any (la xa : Option Addr) (ln lc xc : Nat) (FB : ByteArray) (m : Int) (ps : List Pl) (key : ByteArray) (seq : Int) (w : World) (hx : PR w (.slice xa ps.length xc) ps) (hn : ps.length ≤ 1000) (hk : goodK key = true) (hg : goodF 4 FB m = true) :
    Calls Tryz.prog 42 #[.agg #[.slice la ln lc, .slice xa ps.length xc, .int .i64 4, .string FB, .int .i64 m], .string key, .int .i64 seq] w (PfA ps (hasBs FB.data.toList (plK key 4)) key seq w) := by
  obtain ⟨W, hW⟩ : ∃ W, W = (((w.alloc (.cells #[.slice la ln lc, .slice xa ps.length xc, .int .i64 4, .string FB, .int .i64 m] 73)).alloc (.cells #[.string key] 9)).alloc (.cells #[.int .i64 seq] 3)).alloc (.cells #[.string ⟨#[]⟩, .int .i64 0, .int .i64 0, .int .i64 0] 50) := ⟨_, rfl⟩
  have hb0 : Below w.heap.size w W := by rw [hW]; exact (((below_alloc _ _).alloc (by simp) _).alloc (by simp; omega) _).alloc (by simp; omega) _
  have T0 : Box W w.heap.size [.slice la ln lc, .slice xa ps.length xc, .int .i64 4, .string FB, .int .i64 m] := by rw [hW]; exact (((Box.new w #[.slice la ln lc, .slice xa ps.length xc, .int .i64 4, .string FB, .int .i64 m] 73).alloc _).alloc _).alloc _
  have K0 : Box W (w.heap.size + 1) [.string key] := by
    rw [hW]
    have := Box.new (w.alloc (.cells #[.slice la ln lc, .slice xa ps.length xc, .int .i64 4, .string FB, .int .i64 m] 73)) #[.string key] 9
    simp only [World.size_alloc] at this
    exact (this.alloc _).alloc _
  have S0 : Box W (w.heap.size + 1 + 1) [.int .i64 seq] := by
    rw [hW]
    have := Box.new ((w.alloc (.cells #[.slice la ln lc, .slice xa ps.length xc, .int .i64 4, .string FB, .int .i64 m] 73)).alloc (.cells #[.string key] 9)) #[.int .i64 seq] 3
    simp only [World.size_alloc] at this
    exact this.alloc _
  have R0 : Box W (w.heap.size + 1 + 1 + 1) [.string ⟨#[]⟩, .int .i64 0, .int .i64 0, .int .i64 0] := by
    rw [hW]
    have := Box.new (((w.alloc (.cells #[.slice la ln lc, .slice xa ps.length xc, .int .i64 4, .string FB, .int .i64 m] 73)).alloc (.cells #[.string key] 9)).alloc (.cells #[.int .i64 seq] 3)) #[.string ⟨#[]⟩, .int .i64 0, .int .i64 0, .int .i64 0] 50
    simp only [World.size_alloc] at this
    exact this
  have KM : ∀ w, Calls Tryz.prog 21 #[.agg #[.int .i64 4, .string FB, .int .i64 m], .string key] w fun e w' => e = .returned (.tuple #[.bool (hasBs FB.data.toList (plK key 4)), .bool true]) ∧ Below w.heap.size w w' := fun w => implMay_good 4 FB m key w hk hg
  generalize hasBs FB.data.toList (plK key 4) = has at *
  obtain ⟨_, t0, t1, t2, t3, t4⟩ := T0.c5
  have k0 := K0.2.1 0 _ rfl
  rw [hW] at t0 t1 t2 t3 t4 k0
  go_enter Tryz.func42, Tryz.ntmps42
  go_wp2_with fail
  rw [← hW]
  clear hW t0 t1 t2 t3 t4 k0
  refine (KM _).mono ?_
  rintro e w1 ⟨rfl, hb1⟩
  have hB1 := below_then hb0 hb1
  have T1 := T0.below hb1
  have K1 := K0.below hb1
  have S1 := S0.below hb1
  have R1 := R0.below hb1
  clear KM T0 K0 S0 R0 hb1 hb0
  have fin : ∀ (W' : World), Chg (fun j => j = w.heap.size + 1 + 1 + 1) w1 W' → Below w.heap.size w W' := fun W' h => hB1.trans (h.below hB1.size (fun j hj => by omega))
  cases has with
  | false =>
    obtain ⟨⟨f0, f1, f2, f3⟩, zz, r0, r1, r2, r3⟩ := R1.f4
    have R2 := put4_box R1 (.string ⟨#[]⟩) (.int .i64 0) (.int .i64 0) (.int .i64 0)
    have hB2 := fin _ (put4_chg w1 (w.heap.size + 1 + 1 + 1) (.string ⟨#[]⟩) (.int .i64 0) (.int .i64 0) (.int .i64 0))
    clear fin T1 K1 S1 R1 hB1
    go_wp2
    change bodyPost _ _ _ _ _ (put4 w1 (w.heap.size + 1 + 1 + 1) (.string ⟨#[]⟩) (.int .i64 0) (.int .i64 0) (.int .i64 0))
    generalize put4 w1 (w.heap.size + 1 + 1 + 1) (.string ⟨#[]⟩) (.int .i64 0) (.int .i64 0) (.int .i64 0) = W' at *
    obtain ⟨_, q0, q1, q2, q3⟩ := R2.c4
    exact bodyPost_ret (v := .tuple #[.agg #[.string ⟨#[]⟩, .int .i64 0, .int .i64 0, .int .i64 0], .bool false]) (by simp [results, Tryz.results42, go_sem, q0, q1, q2, q3]) rfl ⟨hB2, .inl ⟨.inl rfl, rfl⟩⟩
  | true =>
    have hx1 := hx.below hB1
    have KI := indexFunc_any (.slice xa ps.length xc) ps (w.heap.size + 1) (w.heap.size + 1 + 1) key seq w1 hx1 hn K1 S1
    obtain ⟨_, t0, t1, t2, t3, t4⟩ := T1.c5
    go_wp2_with fail
    refine KI.mono ?_
    rintro e w2 ⟨r, rfl, hif, hb2⟩
    have hB2 := below_then hB1 hb2
    have T2 := T1.below hb2
    have R2 := R1.below hb2
    have hx2 := hx1.below hb2
    clear KI T1 K1 S1 R1 hb2 hB1 fin hx1 t0 t1 t2 t3 t4
    have fin : ∀ (W' : World), Chg (fun j => j = w.heap.size + 1 + 1 + 1) w2 W' → Below w.heap.size w W' := fun W' h => hB2.trans (h.below hB2.size (fun j hj => by omega))
    obtain ⟨⟨f0, f1, f2, f3⟩, zz, r0, r1, r2, r3⟩ := R2.f4
    obtain ⟨_, t0, t1, t2, t3, t4⟩ := T2.c5
    rcases hif with ⟨rfl, hall⟩ | ⟨i, hi, rfl, hnl, hall⟩
    · have HA : Hid (∀ j (h : j < ps.length), lessP ps[j] key seq) := hall
      have R3 := put4_box R2 (.string ⟨#[]⟩) (.int .i64 0) (.int .i64 0) (.int .i64 0)
      have hB3 := fin _ (put4_chg w2 (w.heap.size + 1 + 1 + 1) (.string ⟨#[]⟩) (.int .i64 0) (.int .i64 0) (.int .i64 0))
      clear fin hall hx2 T2 R2 hB2 hx
      go_wp2
      change bodyPost _ _ _ _ _ (put4 w2 (w.heap.size + 1 + 1 + 1) (.string ⟨#[]⟩) (.int .i64 0) (.int .i64 0) (.int .i64 0))
      generalize put4 w2 (w.heap.size + 1 + 1 + 1) (.string ⟨#[]⟩) (.int .i64 0) (.int .i64 0) (.int .i64 0) = W' at *
      obtain ⟨_, q0, q1, q2, q3⟩ := R3.c4
      exact bodyPost_ret (v := .tuple #[.agg #[.string ⟨#[]⟩, .int .i64 0, .int .i64 0, .int .i64 0], .bool false]) (by simp [results, Tryz.results42, go_sem, q0, q1, q2, q3]) rfl ⟨hB3, .inl ⟨.inr HA.out, rfl⟩⟩
    · obtain ⟨a', c', he, hc⟩ := hx2
      injection he with e1 e2 e3
      subst e1
      obtain ⟨b, off, rfl, hbl, hcell⟩ := hc (by intro e; rw [e] at hi; simp at hi)
      obtain ⟨c0, c1, c2, c3⟩ := hcell i hi
      have HA : Hid (∀ p : Pl, p = ps[i] → ∀ W', Below w.heap.size w W' → PfA ps true key seq w (.returned (.tuple #[.agg #[.string p.k, .int .i64 p.n, .int .i64 p.a, .int .i64 p.z], .bool true])) W') := fun p hp W' hb => by
        subst hp
        exact ⟨hb, .inr ⟨rfl, i, hi, rfl, hnl, hall⟩⟩
      have g1 : decide ((i : Int) < 0) = false := decide_eq_false (by omega)
      obtain ⟨p, hp⟩ : ∃ p, p = ps[i] := ⟨_, rfl⟩
      rw [← hp] at c0 c1 c2 c3
      have HB := HA.out p hp
      clear HA hp hall hnl hcell hc hx
      obtain ⟨pk, pn, pa, pz⟩ := p
      dsimp only at c0 c1 c2 c3 HB
      have R3 := put4_box R2 (.string pk) (.int .i64 pn) (.int .i64 pa) (.int .i64 pz)
      have hB3 := fin _ (put4_chg w2 (w.heap.size + 1 + 1 + 1) (.string pk) (.int .i64 pn) (.int .i64 pa) (.int .i64 pz))
      have HC : Hid _ := HB
      clear fin T2 R2 hB2 HB
      go_wp2
      change bodyPost _ _ _ _ _ (put4 w2 (w.heap.size + 1 + 1 + 1) (.string pk) (.int .i64 pn) (.int .i64 pa) (.int .i64 pz))
      generalize put4 w2 (w.heap.size + 1 + 1 + 1) (.string pk) (.int .i64 pn) (.int .i64 pa) (.int .i64 pz) = W' at *
      obtain ⟨_, q0, q1, q2, q3⟩ := R3.c4
      exact bodyPost_ret (v := .tuple #[.agg #[.string pk, .int .i64 pn, .int .i64 pa, .int .i64 pz], .bool true]) (by simp [results, Tryz.results42, go_sem, q0, q1, q2, q3]) rfl (HC.out W' hB3)
end Go.Proofs.YtfdaffnkgpdhhaaGreat

namespace Go.Proofs.YtfdaffnkgpdhhaaGreat
open Go.RowKit
set_option linter.unusedVariables false
set_option maxRecDepth 100000

/-- What is looked for; what GetFrom answers. -/
def gX (key : ByteArray) (seq : Int) : It := ⟨key, seq, 0, ⟨#[]⟩⟩
def gI (l : List It) (key : ByteArray) (seq : Int) : It := l.getD (seekF l (gX key seq)) default
def gMay (l : List It) (key : ByteArray) (seq : Int) : Bool := hasBs (fbT l).data.toList (plK key 4) && decide (seekF l (gX key seq) < l.length)
def gF (l : List It) (ok : Bool) (key : ByteArray) (seq : Int) : It × Int × Bool :=
  if ok && okKey key && okSeq seq then (if gMay l key seq then (if (gI l key seq).k = key then (gI l key seq, 1, true) else (It.zero, 1, false)) else (It.zero, 0, false)) else (It.zero, 0, false)
def GtA (s key : ByteArray) (seq : Int) (w : World) (e : Ending) (w' : World) : Prop :=
  ∃ l ok, TbRes (bl s) l ok ∧ Below w.heap.size w w' ∧ e = .returned (.tuple #[.agg #[.string (gF l ok key seq).1.k, .int .i64 (gF l ok key seq).1.n, .int .i64 (gF l ok key seq).1.d, .string (gF l ok key seq).1.v], .int .i64 (gF l ok key seq).2.1, .bool (gF l ok key seq).2.2])
theorem GtA.mk {s key : ByteArray} {seq : Int} {w w' : World} {l : List It} {ok : Bool} (h : TbRes (bl s) l ok) (hb : Below w.heap.size w w') {x : It} {n : Int} {b : Bool} (hg : gF l ok key seq = (x, n, b)) : GtA s key seq w (.returned (.tuple #[.agg #[.string x.k, .int .i64 x.n, .int .i64 x.d, .string x.v], .int .i64 n, .bool b])) w' :=
  ⟨l, ok, h, hb, by rw [hg]⟩
theorem TbRes.bytes {s : List UInt8} {l : List It} (h : TbRes s l true) : tbL l = s := by rcases h with ⟨_, _, h, _⟩ | ⟨h, _⟩; exact h; cases h
theorem tb_block {l : List It} {s : ByteArray} (hs : tbL l = bl s) {i : Nat} (hi : i < nb l) : bl (s.extract (bsL l i).length ((bsL l i).length + (blkL (chk l i)).length)) = blkL (chk l i) ∧ (bsL l i).length + (blkL (chk l i)).length ≤ s.size := by
  have e : tbL l = bsL l (nb l) ++ (frameL (ixL l (nb l)) ++ frameL (bl (fbT l)) ++ endL (bsL l (nb l)).length) := by simp [tbL]
  have hd := bsR_step hi
  unfold bsR at hd
  have hle : (bsL l i).length ≤ (bsL l (nb l)).length := by
    have := congrArg List.length hd
    rw [List.length_drop, List.length_append] at this
    have h6 : (blkL (chk l i)).length ≠ 0 := by rw [blk_len]; omega
    omega
  have h2 : (bl s).drop (bsL l i).length = blkL (chk l i) ++ (bsR l (i + 1) ++ (frameL (ixL l (nb l)) ++ frameL (bl (fbT l)) ++ endL (bsL l (nb l)).length)) := by
    rw [← hs, e, List.drop_append_of_le_length hle, hd, List.append_assoc]; rfl
  refine ⟨?_, ?_⟩
  · rw [bl_ext, h2, show (bsL l i).length + (blkL (chk l i)).length - (bsL l i).length = (blkL (chk l i)).length from by omega, List.take_left]
  · have := congrArg List.length h2
    rw [List.length_drop, List.length_append, bl_len] at this
    have h6 : (blkL (chk l i)).length ≠ 0 := by rw [blk_len]; omega
    omega
theorem plc_less {l : List It} {key : ByteArray} {seq : Int} {i : Nat} : lessP (plc l i) key seq ↔ lessIt (lastI l i) (gX key seq) := Iff.rfl

set_option maxHeartbeats 8000000 in
theorem implGet_any (s key : ByteArray) (seq : Int) (w : World) (hs : s.size ≤ 1048576) (hk : key.size ≤ 1048576) : Calls Tryz.prog 14 #[.string s, .string key, .int .i64 seq] w (GtA s key seq w) := by
  have K := fun w => tableFrom_any s w hs
  have KK := fun w => goodKey_any key w hk
  have KQ := fun w => goodSeq_any seq w
  have Z0 := Box.new w #[.string ⟨#[]⟩, .int .i64 0, .int .i64 0, .string ⟨#[]⟩] 33
  have hb0 := below_alloc w (.cells #[.string ⟨#[]⟩, .int .i64 0, .int .i64 0, .string ⟨#[]⟩] 33)
  have zero : ∀ (W : World) (n : Int) (l : List It) (ok : Bool), Box W w.heap.size [.string ⟨#[]⟩, .int .i64 0, .int .i64 0, .string ⟨#[]⟩] → Below w.heap.size w W → TbRes (bl s) l ok → gF l ok key seq = (It.zero, n, false) →
      GtA s key seq w (.returned (.tuple #[.agg #[.string ⟨#[]⟩, .int .i64 0, .int .i64 0, .string ⟨#[]⟩], .int .i64 n, .bool false])) (put4 W w.heap.size (.string ⟨#[]⟩) (.int .i64 0) (.int .i64 0) (.string ⟨#[]⟩)) := fun W n l ok _ hb hr hg =>
    GtA.mk (x := It.zero) hr (hb.trans ((put4_chg _ _ _ _ _ _).below hb.size (fun j hj => by omega))) hg
  have HZ : Hid _ := zero
  clear zero
  go_enter Tryz.func14, Tryz.ntmps14
  go_wp2_with fail
  refine (K _).mono ?_
  clear K
  rintro e w1 ⟨hb1, l, ok, hres, hcase⟩
  have hB1 := below_then hb0 hb1
  have Z1 := Z0.below hb1
  have HR : Hid (TbRes (bl s) l ok) := hres
  clear Z0 hb0
  rcases hcase with ⟨rfl, rfl⟩ | ⟨rfl, lv, xv, m, rfl, hf, hr1, hr2⟩
  · have HG : Hid (gF l false key seq = (It.zero, 0, false)) := rfl
    have hB2 := hB1.alloc hB1.size (.cells #[.slice none 0 0, .slice none 0 0, .int .i64 0, .string ⟨#[]⟩, .int .i64 0] 73)
    have Z2 := Z1.alloc (.cells #[.slice none 0 0, .slice none 0 0, .int .i64 0, .string ⟨#[]⟩, .int .i64 0] 73)
    obtain ⟨W, hW⟩ : ∃ W, W = w1.alloc (.cells #[.slice none 0 0, .slice none 0 0, .int .i64 0, .string ⟨#[]⟩, .int .i64 0] 73) := ⟨_, rfl⟩
    rw [← hW] at hB2 Z2
    obtain ⟨⟨f0, f1, f2, f3⟩, zz, z0, z1, z2, z3⟩ := Z2.f4
    have Z3 := put4_box Z2 (.string ⟨#[]⟩) (.int .i64 0) (.int .i64 0) (.string ⟨#[]⟩)
    have HA : Hid _ := HZ.out W 0 l false Z2 hB2 HR.out HG.out
    rw [hW] at f0 f1 f2 f3 z0 z1 z2 z3
    clear hres hB1 Z1 hb1 hB2 Z2 HZ HR HG
    go_wp2
    rw [← hW]
    change bodyPost _ _ _ _ _ (put4 W w.heap.size (.string ⟨#[]⟩) (.int .i64 0) (.int .i64 0) (.string ⟨#[]⟩))
    generalize put4 W w.heap.size (.string ⟨#[]⟩) (.int .i64 0) (.int .i64 0) (.string ⟨#[]⟩) = W' at *
    obtain ⟨_, q0, q1, q2, q3⟩ := Z3.c4
    exact bodyPost_ret (v := .tuple #[.agg #[.string ⟨#[]⟩, .int .i64 0, .int .i64 0, .string ⟨#[]⟩], .int .i64 0, .bool false]) (by simp [results, Tryz.results14, go_sem, q0, q1, q2, q3]) rfl HA.out
  · have hok := hres.okT
    have hts := hres.bytes
    have hp := okT_parts hok
    obtain ⟨fm, hfm, hfg, hfs⟩ := filF_run hok
    obtain rfl : m = fm := by
      rw [hf] at hfm
      injection hfm with _ h; injection h with _ h; injection h with h _
    obtain ⟨la, lc, rfl⟩ := slice_form hr1
    have hpr := PR_of_owns hr2 (by rw [plsL_len])
    obtain ⟨xa, xc, rfl⟩ := slice_form hr2
    obtain ⟨W, hW⟩ : ∃ W, W = w1.alloc (.cells #[.slice la l.length lc, .slice xa (nb l) xc, .int .i64 4, .string (fbT l), .int .i64 m] 73) := ⟨_, rfl⟩
    have hbW : Below w1.heap.size w1 W := by rw [hW]; exact below_alloc _ _
    have TW : Box W w1.heap.size [.slice la l.length lc, .slice xa (nb l) xc, .int .i64 4, .string (fbT l), .int .i64 m] := by rw [hW]; exact Box.new w1 #[.slice la l.length lc, .slice xa (nb l) xc, .int .i64 4, .string (fbT l), .int .i64 m] 73
    have hB2 := below_then hB1 hbW
    have Z2 := Z1.below hbW
    have hprW := hpr.below hbW
    clear hB1 Z1 hpr hr1 hr2 hbW hres hfm hf
    cases hkk : okKey key with
    | false =>
      have HG : Hid (gF l true key seq = (It.zero, 0, false)) := by show _ = _; unfold gF; rw [hkk]; rfl
      have HA : Hid _ := HZ.out W 0 l true Z2 hB2 HR.out HG.out
      have Z3 := put4_box Z2 (.string ⟨#[]⟩) (.int .i64 0) (.int .i64 0) (.string ⟨#[]⟩)
      obtain ⟨⟨f0, f1, f2, f3⟩, zz, z0, z1, z2, z3⟩ := Z2.f4
      rw [hkk] at KK
      rw [hW] at f0 f1 f2 f3 z0 z1 z2 z3
      clear hB2 Z2 HZ HR HG TW hprW hkk KQ
      go_wp2_with fail
      refine (KK _).mono ?_
      rintro e w3 ⟨rfl, hw⟩
      rw [hw]; clear hw KK
      go_wp2
      rw [← hW]
      change bodyPost _ _ _ _ _ (put4 W w.heap.size (.string ⟨#[]⟩) (.int .i64 0) (.int .i64 0) (.string ⟨#[]⟩))
      generalize put4 W w.heap.size (.string ⟨#[]⟩) (.int .i64 0) (.int .i64 0) (.string ⟨#[]⟩) = W' at *
      obtain ⟨_, q0, q1, q2, q3⟩ := Z3.c4
      exact bodyPost_ret (v := .tuple #[.agg #[.string ⟨#[]⟩, .int .i64 0, .int .i64 0, .string ⟨#[]⟩], .int .i64 0, .bool false]) (by simp [results, Tryz.results14, go_sem, q0, q1, q2, q3]) rfl HA.out
    | true =>
      rw [hkk] at KK
      cases hqq : okSeq seq with
      | false =>
        have HG : Hid (gF l true key seq = (It.zero, 0, false)) := by show _ = _; unfold gF; rw [hkk, hqq]; rfl
        have HA : Hid _ := HZ.out W 0 l true Z2 hB2 HR.out HG.out
        have Z3 := put4_box Z2 (.string ⟨#[]⟩) (.int .i64 0) (.int .i64 0) (.string ⟨#[]⟩)
        obtain ⟨⟨f0, f1, f2, f3⟩, zz, z0, z1, z2, z3⟩ := Z2.f4
        rw [hqq] at KQ
        rw [hW] at f0 f1 f2 f3 z0 z1 z2 z3
        clear hB2 Z2 HZ HR HG TW hprW hkk hqq
        go_wp2_with fail
        refine (KK _).mono ?_
        rintro e w3 ⟨rfl, hw⟩
        rw [hw]; clear hw KK
        go_wp2_with fail
        refine (KQ _).mono ?_
        rintro e w3 ⟨rfl, hw⟩
        rw [hw]; clear hw KQ
        go_wp2
        rw [← hW]
        change bodyPost _ _ _ _ _ (put4 W w.heap.size (.string ⟨#[]⟩) (.int .i64 0) (.int .i64 0) (.string ⟨#[]⟩))
        generalize put4 W w.heap.size (.string ⟨#[]⟩) (.int .i64 0) (.int .i64 0) (.string ⟨#[]⟩) = W' at *
        obtain ⟨_, q0, q1, q2, q3⟩ := Z3.c4
        exact bodyPost_ret (v := .tuple #[.agg #[.string ⟨#[]⟩, .int .i64 0, .int .i64 0, .string ⟨#[]⟩], .int .i64 0, .bool false]) (by simp [results, Tryz.results14, go_sem, q0, q1, q2, q3]) rfl HA.out
      | true =>
        rw [hqq] at KQ
        have HG0 : Hid (gF l true key seq = if gMay l key seq then (if (gI l key seq).k = key then (gI l key seq, 1, true) else (It.zero, 1, false)) else (It.zero, 0, false)) := by show _ = _; unfold gF; rw [hkk, hqq]; rfl
        have hpl : (plsL l (nb l)).length = nb l := plsL_len _ _
        have KP := placeFor_any la xa l.length lc xc (fbT l) m (plsL l (nb l)) key seq W (by rw [hpl]; exact hprW) (by rw [hpl]; have := nb_le hok; omega) hkk hfg
        rw [hpl] at KP
        obtain ⟨_, t0, t1, t2, t3, t4⟩ := TW.c5
        rw [hW] at t0 t1 t2 t3 t4
        clear TW hprW
        go_wp2_with fail
        refine (KK _).mono ?_
        rintro e w3 ⟨rfl, hw⟩
        rw [hw]; clear hw KK
        go_wp2_with fail
        refine (KQ _).mono ?_
        rintro e w3 ⟨rfl, hw⟩
        rw [hw]; clear hw KQ
        go_wp2_with fail
        rw [← hW]
        clear hW t0 t1 t2 t3 t4
        refine KP.mono ?_
        clear KP
        rintro e w3 ⟨hb3, hpf⟩
        have hB3 := below_then hB2 hb3
        have Z3 := Z2.below hb3
        clear hB2 Z2 hb3
        have hpa : ∀ j (h : j < (plsL l (nb l)).length), (plsL l (nb l))[j] = plc l j := fun j h => by simp [plsL]
        rcases hpf with ⟨hno, rfl⟩ | ⟨hhas, i, hi, rfl, hnl, hall⟩
        · have HG : Hid (gF l true key seq = (It.zero, 0, false)) := by
            show _ = _
            rw [HG0.out]
            have : gMay l key seq = false := by
              unfold gMay
              rcases hno with h | h
              · rw [h]; rfl
              · rw [seek_none hp.1 hp.2.1 (gX key seq) (fun j hj => by
                  have := h j (by rw [hpl]; exact hj)
                  rw [hpa] at this
                  exact this), decide_eq_false (Nat.lt_irrefl _), Bool.and_false]
            rw [this]; rfl
          have hB4 := hB3.alloc hB3.size (.cells #[.string ⟨#[]⟩, .int .i64 0, .int .i64 0, .int .i64 0] 50)
          have Z4 := Z3.alloc (.cells #[.string ⟨#[]⟩, .int .i64 0, .int .i64 0, .int .i64 0] 50)
          obtain ⟨W4, hW4⟩ : ∃ W4, W4 = w3.alloc (.cells #[.string ⟨#[]⟩, .int .i64 0, .int .i64 0, .int .i64 0] 50) := ⟨_, rfl⟩
          rw [← hW4] at hB4 Z4
          have HA : Hid _ := HZ.out W4 0 l true Z4 hB4 HR.out HG.out
          have Z5 := put4_box Z4 (.string ⟨#[]⟩) (.int .i64 0) (.int .i64 0) (.string ⟨#[]⟩)
          obtain ⟨⟨f0, f1, f2, f3⟩, zz, z0, z1, z2, z3⟩ := Z4.f4
          rw [hW4] at f0 f1 f2 f3 z0 z1 z2 z3
          clear hno hpa HG0 HG HZ HR Z3 hB3 Z4 hB4
          go_wp2
          rw [← hW4]
          change bodyPost _ _ _ _ _ (put4 W4 w.heap.size (.string ⟨#[]⟩) (.int .i64 0) (.int .i64 0) (.string ⟨#[]⟩))
          generalize put4 W4 w.heap.size (.string ⟨#[]⟩) (.int .i64 0) (.int .i64 0) (.string ⟨#[]⟩) = W' at *
          obtain ⟨_, q0, q1, q2, q3⟩ := Z5.c4
          exact bodyPost_ret (v := .tuple #[.agg #[.string ⟨#[]⟩, .int .i64 0, .int .i64 0, .string ⟨#[]⟩], .int .i64 0, .bool false]) (by simp [results, Tryz.results14, go_sem, q0, q1, q2, q3]) rfl HA.out
        · have hi' : i < nb l := by rw [hpl] at hi; exact hi
          rw [hpa] at hnl
          obtain ⟨sb1, sb2, sb3⟩ := seek_block hp.1 (gX key seq) hi' hnl (fun j hj => by
            have := hall j hj
            rw [hpa] at this
            exact this)
          have hmay : gMay l key seq = true := by unfold gMay; rw [hhas, decide_eq_true sb3]; rfl
          rw [hmay, if_pos rfl] at HG0
          have hgi : gI l key seq = (chk l i).getD (seekF (chk l i) (gX key seq)) default := by
            unfold gI
            rw [sb2, chk_at l i _ sb1]
          obtain ⟨tb1, tb2⟩ := tb_block hts hi'
          have hcg := chk_good hp.1 i
          have hcl := chk_len l i
          have hres2 := rb_res (s.extract (bsL l i).length ((bsL l i).length + (blkL (chk l i)).length))
          rw [tb1] at hres2
          obtain ⟨hrL, hrO⟩ := rd_chk hp.1 hres2
          have KR := fun w => implRead_rb (s.extract (bsL l i).length ((bsL l i).length + (blkL (chk l i)).length)) w (by rw [ByteArray.size_extract]; omega)
          rw [hrL, hrO] at KR
          have hsz : ∀ t (h : t < (chk l i).length), (chk l i)[t].k.size ≤ 1048576 ∧ (chk l i)[t].v.size ≤ 1048576 := fun t h => by
            have ho := okIt_of hcg h
            rw [List.getD_eq_getElem?_getD, List.getElem?_eq_getElem h] at ho
            have h1 := okIt_key ho
            have h2 := okIt_kind ho
            exact ⟨by show _ ≤ _; have := h1.2; dsimp at this; omega, by have := h2.2; dsimp at this; omega⟩
          have hoks : okSeek (chk l i) key seq = true := by unfold okSeek; rw [hcg, hkk, hqq]; rfl
          have KS := fun v w h => implSeek_any v (chk l i) key seq w h (by omega) hsz hk
          rw [sekF_yes hoks, hoks] at KS
          change ∀ v w, IR w v (chk l i) → Calls _ _ _ w fun e w' => e = .returned (.tuple #[.int .i64 ((seekF (chk l i) (gX key seq) : Nat) : Int), .bool true]) ∧ _ at KS
          have HE : (plsL l (nb l))[i] = plc l i := hpa i hi
          have E1 : (plsL l (nb l))[i].k = (lastI l i).k := by rw [HE]; rfl
          have E2 : (plsL l (nb l))[i].n = (lastI l i).n := by rw [HE]; rfl
          have E3 : (plsL l (nb l))[i].a = ((bsL l i).length : Nat) := by rw [HE]; rfl
          have E4 : (plsL l (nb l))[i].z = ((blkL (chk l i)).length : Nat) := by rw [HE]; rfl
          rw [E1, E2, E3, E4]
          have hgd : ∀ t (h : t < (chk l i).length), (chk l i).getD t default = (chk l i)[t] := fun t h => by rw [List.getD_eq_getElem?_getD, List.getElem?_eq_getElem h]; rfl
          rw [hgd _ sb1] at hgi
          clear hpa hall hnl hhas hmay hcl hcg hres2 hrL hrO hsz hoks HE E1 E2 E3 E4 sb2 sb3 hgd hi hi' tb1
          generalize (bsL l i).length = a at *
          generalize (blkL (chk l i)).length = z at *
          generalize (lastI l i).k = pk at *
          generalize (lastI l i).n = pn at *
          generalize seekF (chk l i) (gX key seq) = j at *
          have sl1 : ∀ w, (Instr.slice 9 (.string s) (some (.int .i64 (a : Int))) (some (.int .i64 ((a : Int) + (z : Int)))) none).run Tryz.prog w = .ok (.string (s.extract a (a + z))) w := fun w => by
            rw [run_slice_string w 9 s .i64 .i64 _ _ Tryz.underlying9 (by omega) (by omega) (by omega)]
            rfl
          have ha6 : (a : Int) ≤ 1048576 := by omega
          have hz6 : (z : Int) ≤ 1048576 := by omega
          generalize s.extract a (a + z) = Q at *
          clear tb2
          obtain ⟨W4, hW4⟩ : ∃ W4, W4 = w3.alloc (.cells #[.string pk, .int .i64 pn, .int .i64 (a : Int), .int .i64 (z : Int)] 50) := ⟨_, rfl⟩
          have hbW4 : Below w3.heap.size w3 W4 := by rw [hW4]; exact below_alloc _ _
          have P4 : Box W4 w3.heap.size [.string pk, .int .i64 pn, .int .i64 (a : Int), .int .i64 (z : Int)] := by rw [hW4]; exact Box.new w3 #[.string pk, .int .i64 pn, .int .i64 (a : Int), .int .i64 (z : Int)] 50
          have hB4 := below_then hB3 hbW4
          have Z4 := Z3.below hbW4
          obtain ⟨_, p0, p1, p2, p3⟩ := P4.c4
          rw [hW4] at p0 p1 p2 p3
          clear hB3 Z3 hbW4 P4
          go_wp2_with fail
          rw [← hW4]
          clear hW4 p0 p1 p2 p3
          refine (KR _).mono ?_
          rintro e w5 ⟨bv, rfl, hbo, hb5⟩
          have hB5 := below_then hB4 hb5
          have Z5 := Z4.below hb5
          have hir5 := IR_of_owns hbo rfl
          obtain ⟨ba, bc, rfl⟩ := slice_form hbo
          clear KR hB4 Z4 hb5 hbo sl1
          go_wp2_with fail
          refine (KS _ _ hir5).mono ?_
          rintro e w6 ⟨rfl, hb6⟩
          have hB6 := below_then hB5 hb6
          have Z6 := Z5.below hb6
          have hir6 := hir5.below hb6
          clear KS hB5 Z5 hb6 hir5
          obtain ⟨a', c', he, hc⟩ := hir6
          injection he with e1 e2 e3
          subst e1
          obtain ⟨b, off, rfl, hbl, hcell⟩ := hc (by intro e; rw [e] at sb1; simp at sb1)
          obtain ⟨c0, c1, c2, c3⟩ := hcell j sb1
          rw [← hgi] at c0 c1 c2 c3
          clear hcell hc hgi
          generalize (chk l i).length = cn at *
          generalize gI l key seq = q at *
          obtain ⟨qk, qn, qd, qv⟩ := q
          dsimp only at c0 c1 c2 c3 HG0
          obtain ⟨⟨f0, f1, f2, f3⟩, zz, z0, z1, z2, z3⟩ := Z6.f4
          by_cases hq : qk = key
          · have HG : Hid (gF l true key seq = (⟨qk, qn, qd, qv⟩, 1, true)) := by show _ = _; rw [HG0.out, if_pos hq]
            have g1 := tl_eq hq
            have Z7 := put4_box Z6 (.string qk) (.int .i64 qn) (.int .i64 qd) (.string qv)
            have HA : Hid (GtA s key seq w (.returned (.tuple #[.agg #[.string qk, .int .i64 qn, .int .i64 qd, .string qv], .int .i64 1, .bool true])) (put4 w6 w.heap.size (.string qk) (.int .i64 qn) (.int .i64 qd) (.string qv))) :=
              GtA.mk (x := ⟨qk, qn, qd, qv⟩) HR.out (hB6.trans ((put4_chg _ _ _ _ _ _).below hB6.size (fun j hj => by omega))) HG.out
            clear HG HG0 HZ HR hB6 Z6 hq
            go_wp2
            change bodyPost _ _ _ _ _ (put4 w6 w.heap.size (.string qk) (.int .i64 qn) (.int .i64 qd) (.string qv))
            generalize put4 w6 w.heap.size (.string qk) (.int .i64 qn) (.int .i64 qd) (.string qv) = W' at *
            obtain ⟨_, q0, q1, q2, q3⟩ := Z7.c4
            exact bodyPost_ret (v := .tuple #[.agg #[.string qk, .int .i64 qn, .int .i64 qd, .string qv], .int .i64 1, .bool true]) (by simp [results, Tryz.results14, go_sem, q0, q1, q2, q3]) rfl HA.out
          · have HG : Hid (gF l true key seq = (It.zero, 1, false)) := by show _ = _; rw [HG0.out, if_neg hq]
            have g1 := tl_ne hq
            have Z7 := put4_box Z6 (.string ⟨#[]⟩) (.int .i64 0) (.int .i64 0) (.string ⟨#[]⟩)
            have HA : Hid _ := HZ.out w6 1 l true Z6 hB6 HR.out HG.out
            clear HG HG0 HZ HR hB6 Z6 hq
            go_wp2
            change bodyPost _ _ _ _ _ (put4 w6 w.heap.size (.string ⟨#[]⟩) (.int .i64 0) (.int .i64 0) (.string ⟨#[]⟩))
            generalize put4 w6 w.heap.size (.string ⟨#[]⟩) (.int .i64 0) (.int .i64 0) (.string ⟨#[]⟩) = W' at *
            obtain ⟨_, q0, q1, q2, q3⟩ := Z7.c4
            exact bodyPost_ret (v := .tuple #[.agg #[.string ⟨#[]⟩, .int .i64 0, .int .i64 0, .string ⟨#[]⟩], .int .i64 1, .bool false]) (by simp [results, Tryz.results14, go_sem, q0, q1, q2, q3]) rfl HA.out
end Go.Proofs.YtfdaffnkgpdhhaaGreat

namespace Go.Proofs.YtfdaffnkgpdhhaaGreat
open Go.RowKit
set_option linter.unusedVariables false
set_option maxRecDepth 100000

set_option maxHeartbeats 8000000 in
theorem specGet_any (s key : ByteArray) (seq : Int) (w : World) (hs : s.size ≤ 1048576) (hk : key.size ≤ 1048576) : Calls Tryz.prog 29 #[.string s, .string key, .int .i64 seq] w (GtA s key seq w) := by
  have K := fun w => l7Read_any s w hs
  have KK := fun w => l4Key_any key w hk
  have KQ := fun w => l4Seq_any seq w
  have Z0 := Box.new w #[.string ⟨#[]⟩, .int .i64 0, .int .i64 0, .string ⟨#[]⟩] 33
  have hb0 := below_alloc w (.cells #[.string ⟨#[]⟩, .int .i64 0, .int .i64 0, .string ⟨#[]⟩] 33)
  have zero : ∀ (W : World) (n : Int) (l : List It) (ok : Bool), Box W w.heap.size [.string ⟨#[]⟩, .int .i64 0, .int .i64 0, .string ⟨#[]⟩] → Below w.heap.size w W → TbRes (bl s) l ok → gF l ok key seq = (It.zero, n, false) →
      GtA s key seq w (.returned (.tuple #[.agg #[.string ⟨#[]⟩, .int .i64 0, .int .i64 0, .string ⟨#[]⟩], .int .i64 n, .bool false])) (put4 W w.heap.size (.string ⟨#[]⟩) (.int .i64 0) (.int .i64 0) (.string ⟨#[]⟩)) := fun W n l ok _ hb hr hg =>
    GtA.mk (x := It.zero) hr (hb.trans ((put4_chg _ _ _ _ _ _).below hb.size (fun j hj => by omega))) hg
  have HZ : Hid _ := zero
  clear zero
  go_enter Tryz.func29, Tryz.ntmps29
  go_wp2_with fail
  refine (K _).mono ?_
  clear K
  rintro e w1 ⟨l, ok, v, hres, rfl, ho, hb1⟩
  have hB1 := below_then hb0 hb1
  have Z1 := Z0.below hb1
  have HR : Hid (TbRes (bl s) l ok) := hres
  have hir := IR_of_owns ho rfl
  obtain ⟨la, lc, rfl⟩ := slice_form ho
  clear Z0 hb0 ho hb1
  cases hall : (ok && okKey key && okSeq seq) with
  | false =>
    have HG : Hid (gF l ok key seq = (It.zero, 0, false)) := by show _ = _; unfold gF; rw [hall]; rfl
    have HA : Hid _ := HZ.out w1 0 l ok Z1 hB1 HR.out HG.out
    have Z3 := put4_box Z1 (.string ⟨#[]⟩) (.int .i64 0) (.int .i64 0) (.string ⟨#[]⟩)
    obtain ⟨⟨f0, f1, f2, f3⟩, zz, z0, z1, z2, z3⟩ := Z1.f4
    clear hres HZ HR HG Z1 hB1 hir
    cases ok with
    | false =>
      clear KK KQ hall
      go_wp2
      change bodyPost _ _ _ _ _ (put4 w1 w.heap.size (.string ⟨#[]⟩) (.int .i64 0) (.int .i64 0) (.string ⟨#[]⟩))
      generalize put4 w1 w.heap.size (.string ⟨#[]⟩) (.int .i64 0) (.int .i64 0) (.string ⟨#[]⟩) = W' at *
      obtain ⟨_, q0, q1, q2, q3⟩ := Z3.c4
      exact bodyPost_ret (v := .tuple #[.agg #[.string ⟨#[]⟩, .int .i64 0, .int .i64 0, .string ⟨#[]⟩], .int .i64 0, .bool false]) (by simp [results, Tryz.results29, go_sem, q0, q1, q2, q3]) rfl HA.out
    | true =>
      cases hkk : okKey key with
      | false =>
        rw [hkk] at KK
        clear KQ hall hkk
        go_wp2_with fail
        refine (KK _).mono ?_
        rintro e w3 ⟨rfl, hw⟩
        rw [hw]; clear hw KK
        go_wp2
        change bodyPost _ _ _ _ _ (put4 w1 w.heap.size (.string ⟨#[]⟩) (.int .i64 0) (.int .i64 0) (.string ⟨#[]⟩))
        generalize put4 w1 w.heap.size (.string ⟨#[]⟩) (.int .i64 0) (.int .i64 0) (.string ⟨#[]⟩) = W' at *
        obtain ⟨_, q0, q1, q2, q3⟩ := Z3.c4
        exact bodyPost_ret (v := .tuple #[.agg #[.string ⟨#[]⟩, .int .i64 0, .int .i64 0, .string ⟨#[]⟩], .int .i64 0, .bool false]) (by simp [results, Tryz.results29, go_sem, q0, q1, q2, q3]) rfl HA.out
      | true =>
        rw [hkk] at KK hall
        have hqq : okSeq seq = false := by simpa using hall
        rw [hqq] at KQ
        clear hall hkk hqq
        go_wp2_with fail
        refine (KK _).mono ?_
        rintro e w3 ⟨rfl, hw⟩
        rw [hw]; clear hw KK
        go_wp2_with fail
        refine (KQ _).mono ?_
        rintro e w3 ⟨rfl, hw⟩
        rw [hw]; clear hw KQ
        go_wp2
        change bodyPost _ _ _ _ _ (put4 w1 w.heap.size (.string ⟨#[]⟩) (.int .i64 0) (.int .i64 0) (.string ⟨#[]⟩))
        generalize put4 w1 w.heap.size (.string ⟨#[]⟩) (.int .i64 0) (.int .i64 0) (.string ⟨#[]⟩) = W' at *
        obtain ⟨_, q0, q1, q2, q3⟩ := Z3.c4
        exact bodyPost_ret (v := .tuple #[.agg #[.string ⟨#[]⟩, .int .i64 0, .int .i64 0, .string ⟨#[]⟩], .int .i64 0, .bool false]) (by simp [results, Tryz.results29, go_sem, q0, q1, q2, q3]) rfl HA.out
  | true =>
    simp only [Bool.and_eq_true] at hall
    obtain ⟨⟨rfl, hkk⟩, hqq⟩ := hall
    rw [hkk] at KK
    rw [hqq] at KQ
    have HG0 : Hid (gF l true key seq = if gMay l key seq then (if (gI l key seq).k = key then (gI l key seq, 1, true) else (It.zero, 1, false)) else (It.zero, 0, false)) := by show _ = _; unfold gF; rw [hkk, hqq]; rfl
    have HM : Hid (gMay l key seq = (hasBs (fbT l).data.toList (plK key 4) && decide (seekF l (gX key seq) < l.length))) := rfl
    have HI : Hid (gI l key seq = l.getD (seekF l (gX key seq)) default) := rfl
    have hok := hres.okT
    have hp := okT_parts hok
    obtain ⟨fm, hfm, hfg, hfs⟩ := filF_run hok
    have KL := fun w h => l7Keys_any (.slice la l.length lc) l w h (by omega)
    have KF := fun v w h => specFil_good 4 v (kuL l l.length) w h (by have := kuL_len l l.length; omega) (by decide)
    rw [hfm] at KF
    dsimp only at KF
    have KS : ∀ w, IR w (.slice la l.length lc) l → Calls Tryz.prog 48 #[.slice la l.length lc, .agg #[.string key, .int .i64 seq, .int .i64 0, .string ⟨#[]⟩]] w fun e w' => e = .returned (.int .i64 (seekF l (gX key seq) : Nat)) ∧ Below w.heap.size w w' := fun w h => l6Seek_any (.slice la l.length lc) l key ⟨#[]⟩ seq 0 w h (by omega)
    have KM : ∀ w, Calls Tryz.prog 61 #[.agg #[.int .i64 4, .string (fbT l), .int .i64 fm], .string key] w fun e w' => e = .returned (.bool (hasBs (fbT l).data.toList (plK key 4))) ∧ Below w.heap.size w w' := fun w => l5May_any 4 (fbT l) fm key w hkk hfg
    have hsl := seekF_le l (gX key seq)
    have hl120 := hp.2.2
    clear hres hfm hfg hkk hqq hok hp hfs
    generalize seekF l (gX key seq) = k at *
    generalize hasBs (fbT l).data.toList (plK key 4) = has at *
    generalize fbT l = FB at *
    go_wp2_with fail
    refine (KK _).mono ?_
    rintro e w3 ⟨rfl, hw⟩
    rw [hw]; clear hw KK
    go_wp2_with fail
    refine (KQ _).mono ?_
    rintro e w3 ⟨rfl, hw⟩
    rw [hw]; clear hw KQ
    go_wp2_with fail
    refine (KL _ hir).mono ?_
    rintro e w2 ⟨kv, rfl, hks, hb2⟩
    have hB2 := below_then hB1 hb2
    have Z2 := Z1.below hb2
    have hir2 := hir.below hb2
    clear KL hB1 Z1 hb2 hir
    go_wp2_with fail
    refine (KF _ _ hks).mono ?_
    rintro e w3 ⟨rfl, hb3⟩
    have hB3 := below_then hB2 hb3
    have Z3 := Z2.below hb3
    have hir3 := hir2.below hb3
    clear KF hB2 Z2 hb3 hir2 hks
    obtain ⟨W4, hW4⟩ : ∃ W4, W4 = (w3.alloc (.cells #[.int .i64 4, .string FB, .int .i64 fm] 46)).alloc (.cells #[.string key, .int .i64 seq, .int .i64 0, .string ⟨#[]⟩] 33) := ⟨_, rfl⟩
    have hb4 : Below w3.heap.size w3 W4 := by rw [hW4]; exact below2 _ _ _
    have F4 : Box W4 w3.heap.size [.int .i64 4, .string FB, .int .i64 fm] := by rw [hW4]; exact (Box.new w3 #[.int .i64 4, .string FB, .int .i64 fm] 46).alloc _
    have X4 : Box W4 (w3.heap.size + 1) [.string key, .int .i64 seq, .int .i64 0, .string ⟨#[]⟩] := by
      rw [hW4]
      have := Box.new (w3.alloc (.cells #[.int .i64 4, .string FB, .int .i64 fm] 46)) #[.string key, .int .i64 seq, .int .i64 0, .string ⟨#[]⟩] 33
      simpa only [World.size_alloc] using this
    have hB4 := below_then hB3 hb4
    have Z4 := Z3.below hb4
    have hir4 := hir3.below hb4
    obtain ⟨_, x0, x1, x2, x3⟩ := X4.c4
    rw [hW4] at x0 x1 x2 x3
    clear hB3 Z3 hir3 hb4 X4
    go_wp2_with fail
    rw [← hW4]
    clear hW4 x0 x1 x2 x3
    refine (KS _ hir4).mono ?_
    rintro e w5 ⟨rfl, hb5⟩
    have hB5 := below_then hB4 hb5
    have Z5 := Z4.below hb5
    have hir5 := hir4.below hb5
    have F5 := F4.below hb5
    clear KS hB4 Z4 hir4 F4 hb5
    obtain ⟨_, y0, y1, y2⟩ := F5.c3
    go_wp2_with fail
    refine (KM _).mono ?_
    rintro e w6 ⟨rfl, hb6⟩
    have hB6 := below_then hB5 hb6
    have Z6 := Z5.below hb6
    have hir6 := hir5.below hb6
    clear KM hB5 Z5 hir5 F5 hb6 y0 y1 y2
    obtain ⟨⟨f0, f1, f2, f3⟩, zz, z0, z1, z2, z3⟩ := Z6.f4
    cases has with
    | false =>
      have HG : Hid (gF l true key seq = (It.zero, 0, false)) := by show _ = _; rw [HG0.out, HM.out]; rfl
      have HA : Hid _ := HZ.out w6 0 l true Z6 hB6 HR.out HG.out
      have Z7 := put4_box Z6 (.string ⟨#[]⟩) (.int .i64 0) (.int .i64 0) (.string ⟨#[]⟩)
      clear HG HG0 HM HI HZ HR hB6 Z6 hir6
      go_wp2
      change bodyPost _ _ _ _ _ (put4 w6 w.heap.size (.string ⟨#[]⟩) (.int .i64 0) (.int .i64 0) (.string ⟨#[]⟩))
      generalize put4 w6 w.heap.size (.string ⟨#[]⟩) (.int .i64 0) (.int .i64 0) (.string ⟨#[]⟩) = W' at *
      obtain ⟨_, q0, q1, q2, q3⟩ := Z7.c4
      exact bodyPost_ret (v := .tuple #[.agg #[.string ⟨#[]⟩, .int .i64 0, .int .i64 0, .string ⟨#[]⟩], .int .i64 0, .bool false]) (by simp [results, Tryz.results29, go_sem, q0, q1, q2, q3]) rfl HA.out
    | true =>
      by_cases hkl : k < l.length
      · have g0 : ((k : Int) == (l.length : Int)) = false := by rw [beq_eq_false_iff_ne]; omega
        rw [HM.out, decide_eq_true hkl] at HG0
        simp only [Bool.and_self, if_true] at HG0
        obtain ⟨a', c', he, hc⟩ := hir6
        injection he with e1 e2 e3
        subst e1
        obtain ⟨b, off, rfl, hbl, hcell⟩ := hc (by intro e; rw [e] at hkl; simp at hkl)
        obtain ⟨c0, c1, c2, c3⟩ := hcell k hkl
        have hgi : gI l key seq = l[k] := by rw [HI.out, List.getD_eq_getElem?_getD, List.getElem?_eq_getElem hkl]; rfl
        rw [← hgi] at c0 c1 c2 c3
        clear hcell hc hgi HM HI
        generalize gI l key seq = q at *
        obtain ⟨qk, qn, qd, qv⟩ := q
        dsimp only at c0 c1 c2 c3 HG0
        by_cases hq : qk = key
        · have HG : Hid (gF l true key seq = (⟨qk, qn, qd, qv⟩, 1, true)) := by show _ = _; rw [HG0.out, if_pos hq]
          have g1 := tl_eq hq
          have Z7 := put4_box Z6 (.string qk) (.int .i64 qn) (.int .i64 qd) (.string qv)
          have HA : Hid (GtA s key seq w (.returned (.tuple #[.agg #[.string qk, .int .i64 qn, .int .i64 qd, .string qv], .int .i64 1, .bool true])) (put4 w6 w.heap.size (.string qk) (.int .i64 qn) (.int .i64 qd) (.string qv))) :=
            GtA.mk (x := ⟨qk, qn, qd, qv⟩) HR.out (hB6.trans ((put4_chg _ _ _ _ _ _).below hB6.size (fun j hj => by omega))) HG.out
          clear HG HG0 HZ HR hB6 Z6 hq
          go_wp2
          change bodyPost _ _ _ _ _ (put4 w6 w.heap.size (.string qk) (.int .i64 qn) (.int .i64 qd) (.string qv))
          generalize put4 w6 w.heap.size (.string qk) (.int .i64 qn) (.int .i64 qd) (.string qv) = W' at *
          obtain ⟨_, q0, q1, q2, q3⟩ := Z7.c4
          exact bodyPost_ret (v := .tuple #[.agg #[.string qk, .int .i64 qn, .int .i64 qd, .string qv], .int .i64 1, .bool true]) (by simp [results, Tryz.results29, go_sem, q0, q1, q2, q3]) rfl HA.out
        · have HG : Hid (gF l true key seq = (It.zero, 1, false)) := by show _ = _; rw [HG0.out, if_neg hq]
          have g1 := tl_ne hq
          have Z7 := put4_box Z6 (.string ⟨#[]⟩) (.int .i64 0) (.int .i64 0) (.string ⟨#[]⟩)
          have HA : Hid _ := HZ.out w6 1 l true Z6 hB6 HR.out HG.out
          clear HG HG0 HZ HR hB6 Z6 hq
          go_wp2
          change bodyPost _ _ _ _ _ (put4 w6 w.heap.size (.string ⟨#[]⟩) (.int .i64 0) (.int .i64 0) (.string ⟨#[]⟩))
          generalize put4 w6 w.heap.size (.string ⟨#[]⟩) (.int .i64 0) (.int .i64 0) (.string ⟨#[]⟩) = W' at *
          obtain ⟨_, q0, q1, q2, q3⟩ := Z7.c4
          exact bodyPost_ret (v := .tuple #[.agg #[.string ⟨#[]⟩, .int .i64 0, .int .i64 0, .string ⟨#[]⟩], .int .i64 1, .bool false]) (by simp [results, Tryz.results29, go_sem, q0, q1, q2, q3]) rfl HA.out
      · obtain rfl : k = l.length := by omega
        have HG : Hid (gF l true key seq = (It.zero, 0, false)) := by show _ = _; rw [HG0.out, HM.out, decide_eq_false (Nat.lt_irrefl _)]; rfl
        have HA : Hid _ := HZ.out w6 0 l true Z6 hB6 HR.out HG.out
        have Z7 := put4_box Z6 (.string ⟨#[]⟩) (.int .i64 0) (.int .i64 0) (.string ⟨#[]⟩)
        clear HG HG0 HM HI HZ HR hB6 Z6 hir6
        go_wp2
        change bodyPost _ _ _ _ _ (put4 w6 w.heap.size (.string ⟨#[]⟩) (.int .i64 0) (.int .i64 0) (.string ⟨#[]⟩))
        generalize put4 w6 w.heap.size (.string ⟨#[]⟩) (.int .i64 0) (.int .i64 0) (.string ⟨#[]⟩) = W' at *
        obtain ⟨_, q0, q1, q2, q3⟩ := Z7.c4
        exact bodyPost_ret (v := .tuple #[.agg #[.string ⟨#[]⟩, .int .i64 0, .int .i64 0, .string ⟨#[]⟩], .int .i64 0, .bool false]) (by simp [results, Tryz.results29, go_sem, q0, q1, q2, q3]) rfl HA.out
end Go.Proofs.YtfdaffnkgpdhhaaGreat

